/- sweep.Collect: what nobody comes to goes. -/
import Derived.Test.YtbpbbjenalhababTurning
import Derived.Test.YtbpbbjenalhababReachGo
namespace Go.Proofs.Ytbpbbjenalhabab
open Go.RowKit

/-- What lies in three boxes of one, one and two cells. -/
theorem sweepBoxes {w w' : World} {a x y z : Value} {t t' t'' : TypeId} (hb : Below (((w.alloc (.cells #[a] t)).alloc (.cells #[x] t')).alloc (.cells #[y, z] t'')).heap.size (((w.alloc (.cells #[a] t)).alloc (.cells #[x] t')).alloc (.cells #[y, z] t'')) w') :
    (w'.cell? ⟨w.heap.size + 1, 0, none⟩ = some x ∧ w'.cell? ⟨w.heap.size + 1 + 1, 0, none⟩ = some y ∧ w'.cell? ⟨w.heap.size + 1 + 1, 1, none⟩ = some z) ∧
      (w'.frozen? ⟨w.heap.size + 1, 0, none⟩ = false ∧ w'.frozen? ⟨w.heap.size + 1 + 1, 0, none⟩ = false ∧ w'.frozen? ⟨w.heap.size + 1 + 1, 1, none⟩ = false) ∧ w.heap.size + 1 + 1 < w'.heap.size := by
  have hs := hb.size
  refine ⟨⟨?_, ?_, ?_⟩, ⟨?_, ?_, ?_⟩, by simp at hs; omega⟩
  · rw [hb.cell (p := ⟨w.heap.size + 1, 0, none⟩) (by simp), cell_past _ (by simp), cell_at2 (by simp)]; rfl
  · rw [hb.cell (p := ⟨w.heap.size + 1 + 1, 0, none⟩) (by simp), cell_at2 (by simp)]; rfl
  · rw [hb.cell (p := ⟨w.heap.size + 1 + 1, 1, none⟩) (by simp), cell_at2 (by simp)]; rfl
  · rw [hb.frozen (p := ⟨w.heap.size + 1, 0, none⟩) (by simp), frozen_past _ (by simp), frozen_at2 (by simp)]
  · rw [hb.frozen (p := ⟨w.heap.size + 1 + 1, 0, none⟩) (by simp), frozen_at2 (by simp)]
  · rw [hb.frozen (p := ⟨w.heap.size + 1 + 1, 1, none⟩) (by simp), frozen_at2 (by simp)]

set_option maxHeartbeats 2000000 in
theorem collect_no (W roots : List Int) (ad rad : Option Addr) (cap rcap : Nat) (w : World) (hm : W.length ≤ maxLen) (hr : WordsAt ad W w) (hroots : RootsAt rad roots w) (hrl : roots.length ≤ 5000) (h : (rootsOf W roots).1 ≠ 0) :
    Calls Try.prog 15 #[heapV ad W.length cap, .slice rad roots.length rcap] w fun e w' => e = .returned (.tuple #[.agg #[.slice none 0 0], .slice none 0 0, .agg #[.int .i64 (rootsOf W roots).1, .int .i64 (rootsOf W roots).2]]) ∧ Below w.heap.size w w' := by
  have hs : Hid (∀ w0, WordsAt ad W w0 → RootsAt rad roots w0 → Calls Try.prog 20 #[heapV ad W.length cap, .slice rad roots.length rcap] w0 fun e w' => e = .returned (.tuple #[noView, .agg #[.int .i64 (rootsOf W roots).1, .int .i64 (rootsOf W roots).2]]) ∧ Below w0.heap.size w0 w') :=
    fun w0 h1 h2 => rsee_bad W roots ad rad cap rcap w0 hm h1 h2 hrl h
  have HR : Hid (WordsAt ad W w) := hr
  have HO : Hid (RootsAt rad roots w) := hroots
  generalize rootsOf W roots = F at *
  have hb : (F.1 != 0) = true := by simpa using h
  clear h hr hroots
  go_enter Try.func15, Try.ntmps15
  go_wp2_with (go_at_call 20; refine (hs.out _ (fun h => let ⟨b, off, e, r⟩ := HR.out h; ⟨b, off, e, ((r.alloc _).alloc _).alloc _⟩) (HO.out.below ((((Below.refl _ _).alloc (Nat.le_refl _) _).alloc (by simp) _).alloc (by simp; omega) _))).mono ?_; rintro e w1 ⟨rfl, hb1⟩; obtain ⟨⟨c1, c2, c3⟩, ⟨f1, f2, f3⟩, hz⟩ := sweepBoxes hb1; have hz0 : w.heap.size + 1 < w1.heap.size := (by omega); obtain ⟨⟨d1, d2, d3⟩, ⟨g1, g2, g3⟩, hz'⟩ := sweepBoxes ((hb1.alloc (by simp; omega) (Obj.cells #[Value.slice none 0 0, Value.map none] 46)).alloc (by simp; omega) (Obj.cells #[Value.int IntKind.i64 F.1, Value.int IntKind.i64 F.2] 28)))
  go_region
  all_goals go_wp2_with fail
  all_goals refine bodyPost_ret (v := .tuple #[.agg #[.slice none 0 0], .slice none 0 0, .agg #[.int .i64 F.1, .int .i64 F.2]]) (by simp [results, Try.results15, go_sem, d1, d2, d3]) rfl ⟨rfl, ?_⟩
  all_goals repeat (first | exact below3 hb1 | refine Below.drew ?_ | refine Below.setCell ?_ (by dsimp only; omega) _ | refine Below.alloc ?_ (by first | omega | (simp; omega)) _)

/-- What has been laid so far. -/
noncomputable def laidSo (W : List Int) (ps : List Nat) (i : Nat) : List Int := wd W 0 :: wd W 1 :: (ps.take i).flatMap (thingW (turnP W ps) W)
theorem laid_zero (W : List Int) (ps : List Nat) : laidSo W ps 0 = [wd W 0, wd W 1] := rfl
theorem laid_next {W : List Int} {ps : List Nat} {i : Nat} (h : i < ps.length) : laidSo W ps (i + 1) = laidSo W ps i ++ thingW (turnP W ps) W (ps.getD i 0) := by
  unfold laidSo
  rw [take_snocN h, List.flatMap_append]; simp
theorem laid_end (W : List Int) (ps : List Nat) : laidSo W ps ps.length = movedW W ps := by unfold laidSo movedW; rw [List.take_length]
theorem laid_length {W R : List Int} {ps : List Nat} (M : Moves W R ps) (i : Nat) : (laidSo W ps i).length ≤ W.length := by
  have h1 := roomSum_le (M.once.sublist (List.take_sublist i _)) (fun p hm => M.place (List.mem_of_mem_take hm)) M.two M.fine.fit
  unfold laidSo
  simp only [List.length_cons, flat_length _ fun p hm => M.room (List.mem_of_mem_take hm)]; omega
theorem thing_shape {W R : List Int} {ps : List Nat} (M : Moves W R ps) {p : Nat} (h : p ∈ ps) (t : Int → Int) : t (wd W p) :: wd W (p + 1) :: (4 * ((slotsW t W p).length : Int) + formAt W p) :: slotsW t W p = thingW t W p := by
  unfold thingW
  rw [slotsW_length (M.room h), ← M.fine.shape p (M.place h)]
theorem refs_wf {ps : List Nat} (h : ∀ p ∈ ps, p ≤ 2000) (k : Nat) : (Lit.int .i64 (wd (refs ps) k)).wf = true := by
  by_cases hk : k < ps.length
  · rw [refs_wd hk]
    have := h _ (getD_mem' hk)
    go_wf
  · have : wd (refs ps) k = 0 := by unfold wd; rw [List.getD_eq_getElem?_getD, List.getElem?_eq_none (by rw [refs_length]; omega)]; rfl
    rw [this]; decide
theorem own_roots {w : World} {B : Nat} {ad : Option Addr} {c : Nat} {xs : List Int} (h : w.ownsRow B 3 1 (.slice ad xs.length c) xs.length (vals xs)) (hw : ∀ k, (Lit.int .i64 (wd xs k)).wf = true) : RootsAt ad xs w := by
  intro h0
  obtain ⟨g, k, e, _, hown⟩ := own_shape h (fun e => by simp only [Value.slice.injEq] at e; omega)
  simp only [Value.slice.injEq, true_and] at e
  obtain ⟨rfl, rfl⟩ := e
  exact ⟨g, 0, rfl, own_reads hown hw⟩

theorem own_base' {w : World} {B b n cap : Nat} {xs : List Value} (h : w.ownsRow 0 3 1 (sl b n cap) n xs) (hB : B ≤ b) : w.ownsRow B 3 1 (sl b n cap) n xs := own_mono' h hB
/-- What Collect answers where there is no fault. -/
def CollectAns (K L : List Int) (B : Nat) (e : Ending) (w : World) : Prop :=
  ∃ g c g' c', e = .returned (.tuple #[.agg #[sl g K.length c], sl g' L.length c', .agg #[.int .i64 0, .int .i64 0]]) ∧ B ≤ g ∧ B ≤ g' ∧ w.ownsRow 0 3 1 (sl g K.length c) K.length (vals K) ∧ w.ownsRow 0 3 1 (sl g' L.length c') L.length (vals L)

set_option maxHeartbeats 8000000 in
theorem collect_yes (W roots : List Int) (ad rad : Option Addr) (cap rcap : Nat) (w : World) (hr : WordsAt ad W w) (hroots : RootsAt rad roots w) (hrl : roots.length ≤ 5000) (h : (rootsOf W roots).1 = 0) (M : Moves W roots (stayP W roots)) :
    Calls Try.prog 15 #[heapV ad W.length cap, .slice rad roots.length rcap] w fun e w' => CollectAns (sweptW W roots) (sweptR W roots) w.heap.size e w' ∧ Below w.heap.size w w' := by
  have hs : Hid (∀ w0, WordsAt ad W w0 → RootsAt rad roots w0 → Calls Try.prog 20 #[heapV ad W.length cap, .slice rad roots.length rcap] w0 fun e w' => ViewAns W w0.heap.size e w' ∧ Below w0.heap.size w0 w') :=
    fun w0 h1 h2 => rsee_good W roots ad rad cap rcap w0 h1 h2 hrl h
  obtain ⟨i0, hi, hz0, hz1, hz2⟩ := info_parts info3
  have hu := M.fine.fit
  have hl := M.fine.few
  have h2 := M.two
  have HR : Hid (WordsAt ad W w) := hr
  have HO : Hid (RootsAt rad roots w) := hroots
  have hrefs : reachList W roots = refs (stayP W roots) := (stay_refs W roots).symm
  have HX : Hid (sweptW W roots = movedW W (stayP W roots) ∧ sweptR W roots = roots.map (turnP W (stayP W roots))) := ⟨rfl, rfl⟩
  have HF : Hid (∀ b cap bm rad rc w, IsView w b cap bm W → RootsAt rad roots w → Calls Try.prog 21 #[viewV b W.length cap bm, .slice rad roots.length rc] w fun e w' => OwnedAny w.heap.size (refs (stayP W roots)) e w' ∧ Below w.heap.size w w') := fun b cap bm rad rc w hv hr => by
    have := from_any W roots b cap bm rad rc w hv hr hu hl hrl
    rwa [hrefs] at this
  generalize stayP W roots = ps at *
  have hpp : ∀ p ∈ ps, p ∈ places W 2 := fun p hp => M.place hp
  have hpw := refs_wf (ps := ps) fun p hp => by have := (place_ge (hpp p hp)).2; omega
  have hpl' : ps.length ≤ 2000 := by have := M.count; have h3 := reach_length W roots; omega
  have hT := fun b cap bm Bm Bv mm => turning_turns W ps b cap bm Bm Bv mm hpp hl
  clear h hr hroots hrefs
  go_enter Try.func15, Try.ntmps15
  go_wp2_with (first | (go_at_call 20; refine (hs.out _ (fun h => let ⟨b, off, e, r⟩ := HR.out h; ⟨b, off, e, ((r.alloc _).alloc _).alloc _⟩) (HO.out.below ((((Below.refl _ _).alloc (Nat.le_refl _) _).alloc (by simp) _).alloc (by simp; omega) _))).mono ?_; rintro e w1 ⟨⟨b, cap', bm, rfl, hv, hb, hbm, hne⟩, hb1⟩; have hz : w.heap.size + 1 + 1 < w1.heap.size := (sweepBoxes hb1).2.2; have HO1 : Hid (RootsAt rad roots w1) := HO.out.below (below3 hb1); have hv1 := (hv.alloc (.cells #[sl b W.length cap', .map (some bm)] 46)).alloc (.cells #[.int .i64 0, .int .i64 0] 28)) | (go_at_call 21; refine (HF.out b cap' bm rad rcap _ hv1 (HO1.out.below (((Below.refl _ _).alloc (Nat.le_refl _) _).alloc (by simp) _))).mono ?_; rintro e w2 ⟨⟨ad2, k2, rfl, hown2⟩, hb2⟩; have hv2 := hv1.same hb2; obtain ⟨vb0, vb1, _, _, hzz2⟩ := twos hb2; have hst2 := own_roots hown2 hpw) | (go_at_call 30; refine (turning_any W ps b cap' bm ad2 k2 _ hv2 hst2 M.once hpp hu h2 hl).mono ?_; rintro e w3 ⟨⟨Bm, Bv, mm, rfl, hI3⟩, hb3⟩; have hv3 := hv2.same hb3; have hst3 := hst2.below hb3; have vc0 := through hb3 vb0 (by dsimp only; omega); have vc1 := through hb3 vb1 (by dsimp only; omega)) | (go_at_call 31; refine (vfront_any W b cap' bm _ hv3 h2 hl).mono ?_; rintro e w4 ⟨⟨g4, k4, rfl, hg4, hown4⟩, hb4⟩))
  have hb13 : Below w1.heap.size w1 w3 := (below2 hb2).trans (hb3.mono (below2 hb2).size)
  have hb03 : Below (((w.alloc (.cells #[.slice ad W.length cap] 24)).alloc (.cells #[.slice none 0 0] 24)).alloc (.cells #[.int .i64 0, .int .i64 0] 28)).heap.size (((w.alloc (.cells #[.slice ad W.length cap] 24)).alloc (.cells #[.slice none 0 0] 24)).alloc (.cells #[.int .i64 0, .int .i64 0] 28)) w3 := hb1.trans (hb13.mono hb1.size)
  have HO3 : Hid (RootsAt rad roots w3) := HO1.out.below hb13
  have hz3 : w1.heap.size + 1 < w3.heap.size := by have := hb3.size; omega
  clear hv1 hv2 hst2 hown2 hs HF
  go_loopw [11, 35] (fun s11 s35 wr => ∃ (i g c n : Nat), s35 = .int .i64 i ∧ i ≤ ps.length ∧ s11 = sl g n c ∧ Hid (n = (laidSo W ps i).length) ∧ wr.ownsRow w3.heap.size 3 1 (sl g n c) n (vals (laidSo W ps i)) ∧ Below w3.heap.size w3 wr) (fun _ s35 _ => ps.length - (intOf s35).toNat)
  case atStart => exact ⟨0, g4, k4, 2, rfl, Nat.zero_le _, rfl, rfl, own_base' hown4 hg4, hb4⟩
  case round =>
    clear hown4 hb4
    obtain ⟨i, g, c, n, rfl, hi', rfl, HN, hown, hB⟩ := hrel
    have hvr := hv3.same hB
    have vd0 := through hB vc0 (by dsimp only; omega)
    have vd1 := through hB vc1 (by dsimp only; omega)
    have hIr := hI3.below hB
    have hTr := hT b cap' bm Bm Bv mm
    have hent := hTr.enters
    have hnl : n ≤ 2000 := by rw [HN.out]; exact Nat.le_trans (laid_length M i) hl
    have hg := hown.lt g rfl
    by_cases hlt : i < ps.length
    · obtain ⟨rb, ro, hsad, hrr⟩ := hst3 (by rw [refs_length]; omega)
      subst hsad
      have hcr := (hrr.same hB).cell i (by rw [refs_length]; exact hlt)
      rw [refs_wd hlt] at hcr
      have hmem := getD_mem' hlt
      have Hnext : Hid (laidSo W ps (i + 1) = laidSo W ps i ++ thingW (turnP W ps) W (ps.getD i 0)) := laid_next hlt
      have hnl' : (laidSo W ps (i + 1)).length ≤ 2000 := Nat.le_trans (laid_length M (i + 1)) hl
      generalize hq : ps.getD i 0 = q at *
      clear hq
      have hpl := hpp q hmem
      have ho := ref_thing hl hpl
      have hroom := M.room hmem
      have hform := M.fine.form q hpl
      have hsh := thing_shape M hmem (turnP W ps)
      have hsl := slotsW_length (t := turnP W ps) hroom
      have hs60 : slotsAt W q ≤ 60 := by have := fits_out (place_fit hu hpl).2.2.1; unfold slotsAt; omega
      have HL : Hid (n + (thingW (turnP W ps) W q).length = (laidSo W ps (i + 1)).length) := by rw [Hnext.out, List.length_append, HN.out]; exact rfl
      have htl : n + (thingW (turnP W ps) W q).length ≤ 2000 := by rw [HL.out]; exact hnl'
      have hii : (i : Int) < ((refs ps).length : Int) := by rw [refs_length]; omega
      have hwd := hvr.wf
      clear hnl'
      go_wp2_with (first | (go_at_call 34; refine (vlook_any W b cap' bm q _ hvr hu hl ho hpl).mono ?_; rintro e w5 ⟨⟨v5, rfl, hs5⟩, hb5⟩) | (go_at_call 33; refine (turned_any _ _ _ (turnP W ps) _ hTr W q _ v5 _ (hIr.below hb5) hs5 hwd hroom hl).mono ?_; rintro e w6 ⟨⟨v6, rfl, hs6⟩, hb6⟩) | (go_at_call 32; refine (laid_any (turnP W ps (wd W q)) (wd W (q + 1)) (formAt W q) (slotsW (turnP W ps) W q) _ v6 _ hs6 (by omega) (by omega)).mono ?_; rw [hsh]; rintro e w7 ⟨⟨g7, k7, rfl, hg7, hown7⟩, hb7⟩; have hb57 : Below wr.heap.size wr w7 := (hb5.trans (hb6.mono hb5.size)).trans (hb7.mono (hb5.trans (hb6.mono hb5.size)).size); have hB7 := hB.trans (hb57.mono hB.size); have hownr := own_same hown (fun g' hg' => hb57.block g' (hown.lt g' hg').2); have hnews := news_at hown7; have hz7 := hB7.size) | (at_builtin; refine wpList_append_own _ rfl (.tmp 39) (.tmp 45) 22 rfl w3.heap.size 3 i0 (.int .i64 0) 1 8 ty30 hi hz0 hz1 hz2 rfl (by decide) (sl g n c) n (vals (laidSo W ps i)) rfl hownr ⟨g7, 0, none⟩ (thingW (turnP W ps) W q).length k7 (vals (thingW (turnP W ps) W q)) rfl (by simp) hnews (ints_oneCell .i64 _) (by unfold maxLen; omega) (by omega) (by omega) ?_; intro v8 w8 hown8 hgrow8 hnil8; obtain ⟨g8, c8, hv8, hg8, hown9⟩ := own_shape hown8 (fun e => by have := (hnil8.1 e).1; cases this); subst hv8))
      go_roundw
      case rel => exact ⟨i + 1, g8, c8, n + (thingW (turnP W ps) W q).length, by first | rfl | simp, by omega, rfl, HL, by rw [Hnext.out]; simpa [vals] using hown8, hB7.grown hgrow8 hz7 (fun k hk => by simp [Value.ownBlock] at hk; omega)⟩
      case measure => simp [intOf]; omega
    · have he : i = ps.length := by omega
      subst he
      have HK : Hid (laidSo W ps ps.length = sweptW W roots) := by rw [HX.out.1]; exact laid_end W ps
      obtain ⟨⟨c1, c2, c3⟩, ⟨f1, f2, f3⟩, hzz⟩ := sweepBoxes (hb03.trans (hB.mono hb03.size))
      have hnlt : ¬ ((ps.length : Int) < ((refs ps).length : Int)) := by rw [refs_length]; omega
      go_wp2_with (go_at_call 35; refine (turnedAll_any _ _ _ (turnP W ps) _ hTr roots rad rcap _ hIr (HO3.out.below hB) hrl).mono ?_; rintro e w5 ⟨⟨g5, k5, rfl, hg5, hown5⟩, hb5⟩; obtain ⟨⟨d1, d2, d3⟩, ⟨e1, e2, e3⟩, hz5⟩ := sweepBoxes ((hb03.trans (hB.mono hb03.size)).trans (hb5.mono (hb03.trans (hB.mono hb03.size)).size)))
      have hzw : w.heap.size + 1 + 1 < w3.heap.size := by omega
      have hB5 := hB.trans (hb5.mono hB.size)
      have hB05 : Below w.heap.size w w5 := (below3 hb1).trans ((hb13.trans (hB5.mono hb13.size)).mono (below3 hb1).size)
      have hownK : w5.ownsRow 0 3 1 (sl g n c) n (vals (laidSo W ps ps.length)) := own_mono (Nat.zero_le _) (own_same hown fun g' hg' => hb5.block g' (hown.lt g' hg').2)
      have hlR : (sweptR W roots).length = roots.length := by rw [HX.out.2, List.length_map]
      have hlK : (sweptW W roots).length = n := by rw [HN.out, HK.out]
      rw [HK.out] at hownK
      refine bodyPost_ret (v := .tuple #[.agg #[sl g n c], sl g5 roots.length k5, .agg #[.int .i64 0, .int .i64 0]]) (by simp [results, Try.results15, go_sem, d1, d2, d3]) rfl ⟨⟨g, c, g5, k5, by rw [hlR, hlK], by omega, by have := hB.size; omega, ?_, ?_⟩, ?_⟩
      · rw [hlK]
        repeat (first | exact hownK | refine own_set' ?_ (by dsimp only; omega) _)
      · rw [hlR, HX.out.2]
        have hg5' : w3.heap.size ≤ g5 := by have := hB.size; omega
        rw [List.length_map] at hown5
        repeat (first | exact hown5 | refine own_set' ?_ (by dsimp only; omega) _)
      · repeat (first | exact hB05 | refine Below.setCell ?_ (by dsimp only; omega) _)
end Go.Proofs.Ytbpbbjenalhabab
