/- heap.NewText; names.seated, Intern: a text that is made known. -/
import Derived.Test.YtmgmbgacdjebgaaNSearched
import Derived.Test.YtmgmbgacdjebgaaNewGood
import Derived.Test.YtmgmbgacdjebgaaPutGood
import Derived.Test.YtmgmbgacdjebgaaNamesFill
namespace Go.Proofs.Ytmgmbgacdjebgaa
open Go.RowKit

theorem new_more (W : List Int) (cl fo : Int) (m : Nat) : newWords W cl fo m = moreW W cl fo m := by simp [newWords, moreW]
theorem nil_at0 (W : List Int) : nilB W 0 = true := by unfold nilB; rfl

set_option maxRecDepth 20000 in
set_option maxHeartbeats 1000000 in
theorem newText_full (W : List Int) (ad : Option Addr) (cap : Nat) (t : ByteArray) (w : World) (hr : 2 ≤ W.length → ∃ b off, ad = some ⟨b, off, none⟩ ∧ Row w b off W) (h : (checkOf W).1 = 0) (ht : t.size ≤ 60) (hfull : 2000 < (W.length : Int) + 3 + (t.size : Int) ∨ 10000 < wd W 1) :
    Calls Try.prog 32 #[heapV ad W.length cap, .string t] w fun e w' => e = newErr 6 ∧ Below w.heap.size w w' := by
  have HR : Hid (2 ≤ W.length → ∃ b off, ad = some ⟨b, off, none⟩ ∧ Row w b off W) := hr
  have HF : Hid (2000 < (W.length : Int) + 3 + (t.size : Int) ∨ 10000 < wd W 1) := hfull
  have HS : Hid (sizeB (t.size : Int) = true) := decide_eq_true (by omega)
  clear hr hfull
  go_enter Try.func32, Try.ntmps32
  go_wp2_with (go_at_call 23; refine (new_full W ad cap 0 1 (t.size : Int) _ (reads2 HR.out) h (nil_at0 W) (by decide) HS.out HF.out).mono ?_; rintro e w1 ⟨rfl, hb1⟩; obtain ⟨c0, d1, d2, hz⟩ := boxes11 hb1)
  refine bodyPost_ret (v := .tuple #[.agg #[.slice none 0 0], .int .i64 0, .int .i64 6]) (by simp [results, Try.results32, go_sem, cell_past, d1, hz]) rfl ⟨rfl, ?_⟩
  repeat (first | refine Below.setCell ?_ (by dsimp only; omega) _ | refine Below.alloc ?_ (by simp [World.setCell]; omega) _ | exact below2 hb1)

set_option maxRecDepth 20000 in
set_option maxHeartbeats 4000000 in
theorem newText_good (W : List Int) (ad : Option Addr) (cap : Nat) (t : ByteArray) (w : World) (hr : 2 ≤ W.length → ∃ b off, ad = some ⟨b, off, none⟩ ∧ Row w b off W) (h : (checkOf W).1 = 0) (ht : t.size ≤ 60) (hfit : (W.length : Int) + 3 + (t.size : Int) ≤ 2000) (hh : wd W 1 ≤ 10000) :
    Calls Try.prog 32 #[heapV ad W.length cap, .string t] w fun e w' => NewAns (textW W (nums t)) (2 * (W.length : Int)) e w' ∧ Below w.heap.size w w' := by
  have HR : Hid (2 ≤ W.length → ∃ b off, ad = some ⟨b, off, none⟩ ∧ Row w b off W) := hr
  have HS : Hid (sizeB (t.size : Int) = true) := decide_eq_true (by omega)
  have HN : Hid ((nums t).length = t.size) := nums_length t
  have HM : Hid (newWords W 0 1 (t.size : Int) = moreW W 0 1 (nums t).length) := by rw [new_more, HN.out]; exact rfl
  have HW : Hid ((moreW W 0 1 (nums t).length).length = W.length + 3 + t.size) := by rw [moreW_length, HN.out]; exact rfl
  have hl0 : W.length ≤ 2000 := by omega
  clear hr
  go_enter Try.func32, Try.ntmps32
  go_wp2_with (go_at_call 23; refine (new_from W ad cap 0 1 t.size _ (reads2 HR.out) h (nil_at0 W) (by decide) HS.out hfit hh).mono ?_; rintro e w1 ⟨hans, hb1⟩; rw [HM.out] at hans; obtain ⟨g, c, rfl, hg, hown⟩ := hans; rw [HW.out] at hown ⊢; have z1 := hb1.size; simp only [World.size_alloc] at z1 hg)
  obtain ⟨M, hM⟩ : ∃ M, moreW W 0 1 (nums t).length = M := ⟨_, rfl⟩
  rw [hM] at hown
  have hML : M.length = W.length + 3 + t.size := by rw [← hM]; exact HW.out
  have HML : Hid (M.length = W.length + 3 + t.size) := hML
  have HMM : Hid (moreW W 0 1 (nums t).length = M) := hM
  clear hM hML HM HW
  have hgl := own_lt hown
  have h2w : 2 * (W.length : Int) / 2 = (W.length : Int) := by omega
  have hwr0 := wrap_id (x := (W.length : Int)) (by omega) (by omega)
  have hwr3 := wrap_id (x := (W.length : Int) + 3) (by omega) (by omega)
  have hB1 : Below (w.heap.size + 1 + 1) ((w.alloc (.cells #[.slice ad W.length cap] 24)).alloc (.cells #[.slice none 0 0] 24)) (w1.alloc (.cells #[sl g (W.length + 3 + t.size) c] 24)) := (hb1.mono (by simp)).alloc (by omega) _
  have hX1 : (w1.alloc (.cells #[sl g (W.length + 3 + t.size) c] 24)).cell? ⟨w1.heap.size, 0, none⟩ = some (sl g (W.length + 3 + t.size) c) := by rw [cell_at2 rfl]; rfl
  have hO1 : (w1.alloc (.cells #[sl g (W.length + 3 + t.size) c] 24)).ownsRow 0 3 1 (sl g (W.length + 3 + t.size) c) (W.length + 3 + t.size) (vals (fillP M (W.length + 3) (nums t) 0)) := hown.alloc _
  go_loopw [29] (fun s29 wr => ∃ (i : Nat), s29 = .int .i64 i ∧ i ≤ t.size ∧ Hid (wr.ownsRow 0 3 1 (sl g (W.length + 3 + t.size) c) (W.length + 3 + t.size) (vals (fillP M (W.length + 3) (nums t) i))) ∧ Hid (wr.cell? ⟨w1.heap.size, 0, none⟩ = some (sl g (W.length + 3 + t.size) c)) ∧ Below (w.heap.size + 1 + 1) ((w.alloc (.cells #[.slice ad W.length cap] 24)).alloc (.cells #[.slice none 0 0] 24)) wr) (fun s29 _ => t.size - (intOf s29).toNat)
  case atStart => exact ⟨0, rfl, Nat.zero_le _, hO1, hX1, hB1⟩
  case round =>
    rename_i wr
    obtain ⟨i, rfl, hi', HO, HX, hB⟩ := hrel
    clear hO1 hX1 hB1
    have hX := HX.out
    by_cases hlt : i < t.size
    · have hil : (i : Int) < (t.size : Int) := by omega
      have hcc := nums_at hlt
      have hby := wd_byte (nums_byte t) i
      have hg : wr.cell? ⟨g, W.length + 3 + i, none⟩ = some (.int .i64 (wd (fillP M (W.length + 3) (nums t) i) (W.length + 3 + i))) := by
        have hO := HO.out
        have hl1 : (fillP M (W.length + 3) (nums t) i).length = W.length + 3 + t.size := by rw [fill_length]; exact HML.out
        rw [← hl1] at hO
        exact own_cell hO (by omega)
      have hfz := HO.out.frozenAt (W.length + 3 + i)
      have hne : ¬ g = w1.heap.size := by omega
      have hst := (HO.out.stored (W.length + 3 + i) (.int .i64 (wd (nums t) i))).1
      rw [vals_set] at hst
      have HST : Hid ((wr.setCell ⟨g, W.length + 3 + i, none⟩ (.int .i64 (wd (nums t) i))).ownsRow 0 3 1 (sl g (W.length + 3 + t.size) c) (W.length + 3 + t.size) (vals (fillP M (W.length + 3) (nums t) (i + 1)))) := hst
      clear hst
      generalize wd (nums t) i = x at *
      have hw1 := wrap_id (x := x) (by omega) (by omega)
      have hw2 := wrap_id (x := (W.length : Int) + 3 + (i : Int)) (by omega) (by omega)
      have hi3 : (W.length : Int) + 3 + (i : Int) < (W.length : Int) + 3 + (t.size : Int) := by omega
      have h03 : (0 : Int) ≤ (W.length : Int) + 3 + (i : Int) := by omega
      have ht3 : ((W.length : Int) + 3 + (i : Int)).toNat = W.length + 3 + i := by omega
      go_wp2_with fail
      go_region
      all_goals go_wp2_with fail
      go_roundw
      case rel => exact ⟨i + 1, by first | rfl | simp, by omega, HST.out.drew, (by show (World.setCell _ _ _).cell? _ = _; rw [World.cell?_of_block (Below.heap_setCell _ _ _ _ (by dsimp only; omega))]; exact hX), (hB.setCell (p := ⟨g, W.length + 3 + i, none⟩) (by dsimp only; omega) _).drew⟩
      case measure => simp [intOf]; omega
    · have e : i = t.size := by omega
      subst e
      obtain ⟨c0, d1, d2, hz⟩ := boxes11 (hB.mono (by simp))
      have HT : Hid (fillP M (W.length + 3) (nums t) t.size = textW W (nums t)) := by
        show _ = textW W (nums t)
        unfold textW
        rw [HMM.out, HN.out]
      have hO := HO.out
      rw [HT.out] at hO
      have hne : ¬ g = w.heap.size + 1 := by omega
      have HL : Hid ((textW W (nums t)).length = W.length + 3 + t.size) := by rw [textW_length, HN.out]; exact rfl
      go_wp2_with fail
      refine bodyPost_ret (v := .tuple #[.agg #[sl g (W.length + 3 + t.size) c], .int .i64 (2 * (W.length : Int)), .int .i64 0]) (by simp [results, Try.results32, go_sem, d1]) rfl ⟨⟨g, c, by rw [HL.out], ?_⟩, ?_⟩
      · rw [HL.out]; exact own_set hO (by dsimp only; omega) _
      · exact (below2 (hB.mono (by simp))).setCell (by dsimp only; omega) _

theorem small_wf : ∀ x : Int, -100000 ≤ x → x ≤ 100000 → (Lit.int .i64 x).wf = true := fun x h1 h2 => by go_wf
/-- What comes out of New, Put, Clone can be read. -/
theorem own_words {w : World} {g c : Nat} {K : List Int} (h : w.ownsRow 0 3 1 (sl g K.length c) K.length (vals K)) (hw : ∀ k, (Lit.int .i64 (wd K k)).wf = true) : 2 ≤ K.length → ∃ b off, (some ⟨g, 0, none⟩ : Option Addr) = some ⟨b, off, none⟩ ∧ Row w b off K := fun _ => ⟨g, 0, rfl, own_reads h hw⟩
theorem text_wf {W T : List Int} (hw : ∀ k, (Lit.int .i64 (wd W k)).wf = true) (hT : ∀ c ∈ T, 0 ≤ c ∧ c ≤ 255) (hl : T.length ≤ 60) (hh0 : 0 ≤ wd W 1) (hh : wd W 1 ≤ 10001) (k : Nat) : (Lit.int .i64 (wd (textW W T) k)).wf = true :=
  wd_in (P := fun x => (Lit.int .i64 x).wf = true) (by decide) (fill_in_all (P := fun x => (Lit.int .i64 x).wf = true) small_wf (in_wd (P := fun x => (Lit.int .i64 x).wf = true) hw) hT hl hh0 hh _) k

set_option maxRecDepth 20000 in
set_option maxHeartbeats 1000000 in
theorem seated_full (W : List Int) (ad : Option Addr) (cap : Nat) (o at' : Int) (t : ByteArray) (w : World) (hr : 2 ≤ W.length → ∃ b off, ad = some ⟨b, off, none⟩ ∧ Row w b off W) (h : (checkOf W).1 = 0) (ht : t.size ≤ 60) (hfull : 2000 < (W.length : Int) + 3 + (t.size : Int) ∨ 10000 < wd W 1) :
    Calls Try.prog 19 #[heapV ad W.length cap, .int .i64 o, .int .i64 at', .string t] w fun e w' => e = newErr 6 ∧ Below w.heap.size w w' := by
  have HR : Hid (2 ≤ W.length → ∃ b off, ad = some ⟨b, off, none⟩ ∧ Row w b off W) := hr
  have HF : Hid (2000 < (W.length : Int) + 3 + (t.size : Int) ∨ 10000 < wd W 1) := hfull
  clear hr hfull
  go_enter Try.func19, Try.ntmps19
  go_wp2_with (go_at_call 32; refine (newText_full W ad cap t _ (reads2 HR.out) h ht HF.out).mono ?_; rintro e w1 ⟨rfl, hb1⟩; obtain ⟨c0, d1, d2, hz⟩ := boxes11 hb1)
  refine bodyPost_ret (v := .tuple #[.agg #[.slice none 0 0], .int .i64 0, .int .i64 6]) (by simp [results, Try.results19, go_sem, cell_past, d1, hz]) rfl ⟨rfl, ?_⟩
  repeat (first | refine Below.setCell ?_ (by dsimp only; omega) _ | refine Below.alloc ?_ (by simp [World.setCell]; omega) _ | exact below2 hb1)

set_option maxRecDepth 20000 in
set_option maxHeartbeats 4000000 in
theorem seated_good (W : List Int) (ad : Option Addr) (cap p k : Nat) (t : ByteArray) (w : World) (hr : 2 ≤ W.length → ∃ b off, ad = some ⟨b, off, none⟩ ∧ Row w b off W) (h : (checkOf W).1 = 0) (ht : t.size ≤ 60) (hfit : (W.length : Int) + 3 + (t.size : Int) ≤ 2000) (hh : wd W 1 ≤ 10000) (ho : thingB W (2 * (p : Int)) = true) (hm : p ∈ places W 2) (hf : formAt W p = 0) (hk : k < slotsAt W p) :
    Calls Try.prog 19 #[heapV ad W.length cap, .int .i64 (2 * (p : Int)), .int .i64 (k : Int), .string t] w fun e w' => NewAns (internW W p k (nums t)) (2 * (W.length : Int)) e w' ∧ Below w.heap.size w w' := by
  obtain ⟨h2, _, _, hh0, _⟩ := front_out (check_ok h).1
  have HN := nums_length t
  obtain ⟨x1, x2, x3, x4, x5⟩ := text_put (T := nums t) h (by omega) (nums_byte t) (by omega) hh ho hm hf hk
  have hwf : ∀ j, (Lit.int .i64 (wd (textW W (nums t)) j)).wf = true := by
    obtain ⟨b, off, _, hrow⟩ := hr h2
    exact text_wf hrow.wf (nums_byte t) (by omega) (by omega) (by omega)
  have HR : Hid (2 ≤ W.length → ∃ b off, ad = some ⟨b, off, none⟩ ∧ Row w b off W) := hr
  have HWF : Hid (∀ j, (Lit.int .i64 (wd (textW W (nums t)) j)).wf = true) := hwf
  have HT : Hid (internW W p k (nums t) = (textW W (nums t)).set (p + 3 + k) (2 * (W.length : Int))) := intern_text _ _ _ _
  rw [HT.out]
  clear hr hwf HN
  obtain ⟨K, hK⟩ : ∃ K, textW W (nums t) = K := ⟨_, rfl⟩
  rw [hK] at x1 x2 x3 x4 x5 HWF ⊢
  have HK : Hid (textW W (nums t) = K) := hK
  clear hK HT
  go_enter Try.func19, Try.ntmps19
  go_wp2_with (first | (go_at_call 32; refine (newText_good W ad cap t _ (reads2 HR.out) h ht hfit hh).mono ?_; rintro e w1 ⟨hans, hb1⟩; rw [HK.out] at hans; obtain ⟨g, c, rfl, hown⟩ := hans; have z1 := (boxes11 hb1).2.2.2) | (go_at_call 33; refine (put_good K (some ⟨g, 0, none⟩) c p k (2 * (W.length : Int)) _ (own_words (hown.alloc _) HWF.out) x1 x2 x3 x4 x5).mono ?_; rintro e w2 ⟨⟨g2, c2, rfl, hown2⟩, hb2⟩; have hB2 := hb1.trans (((below_call hb2)).mono hb1.size); obtain ⟨c0, d1, d2, hz⟩ := boxes11 hB2; have u0 := box_one hb2; have fu : w2.frozen? ⟨w1.heap.size, 0, none⟩ = false := (by rw [hb2.frozen (p := ⟨w1.heap.size, 0, none⟩) (by simp)]; exact frozen_at2 rfl); have nn : ¬ w1.heap.size = w.heap.size + 1 := (by omega)))
  have hln : (K.set (p + 3 + k) (2 * (W.length : Int))).length = K.length := by simp
  have hpos : 0 < K.length := by rw [← HK.out, textW_length]; omega
  rw [hln] at hown2
  have q1 : w2.cell? ⟨g2, 0, none⟩ = some (.int .i64 (wd (K.set (p + 3 + k) (2 * (W.length : Int))) 0)) := by
    rw [← hln] at hown2
    exact own_cell hown2 (by omega)
  have n1 : g2 ≠ w1.heap.size := fun e => by rw [e, u0] at q1; simp at q1
  have n2 : g2 ≠ w.heap.size + 1 := fun e => by rw [e, d1] at q1; simp at q1
  refine bodyPost_ret (v := .tuple #[.agg #[sl g2 K.length c2], .int .i64 (2 * (W.length : Int)), .int .i64 0]) (by simp [results, Try.results19, go_sem, d1]) rfl ⟨⟨g2, c2, by rw [hln], ?_⟩, ?_⟩
  · rw [hln]
    exact own_set' (own_set' hown2 n1 _) n2 _
  · exact ((below2 hB2).setCell (p := ⟨w1.heap.size, 0, none⟩) (by dsimp only; omega) _).setCell (p := ⟨w.heap.size + 1, 0, none⟩) (by dsimp only; omega) _
end Go.Proofs.Ytmgmbgacdjebgaa
