/- become.renamed, where nothing stands against it. -/
import Derived.Test.YtgggmdanpdggpabBecome
import Derived.Deep.CutRange
import Derived.Deep.DeepCutAuto
namespace Go.Proofs.Ytgggmdanpdggpab
open Go.RowKit

/-- What renamed has laid: its view, what it answers. -/
structure RenBox (N1 N : Nat) (va vb : Value) (w : World) : Prop where
  v0 : w.cell? ⟨N1, 0, none⟩ = some va
  v1 : w.cell? ⟨N1, 1, none⟩ = some vb
  d1 : w.cell? ⟨N + 1, 0, none⟩ = some (.slice none 0 0)
  d2 : w.cell? ⟨N + 1 + 1, 0, none⟩ = some (.int .i64 0)
  d3 : w.cell? ⟨N + 1 + 1, 1, none⟩ = some (.int .i64 0)
  e1 : w.frozen? ⟨N + 1, 0, none⟩ = false
  e2 : w.frozen? ⟨N + 1 + 1, 0, none⟩ = false
  e3 : w.frozen? ⟨N + 1 + 1, 1, none⟩ = false
  lt : N + 1 + 1 < N1 ∧ N1 + 1 < w.heap.size
theorem RenBox.below {N1 N : Nat} {va vb : Value} {w w' : World} (h : RenBox N1 N va vb w) (hb : Below w.heap.size w w') : RenBox N1 N va vb w' := by
  obtain ⟨l1, l2⟩ := h.lt
  refine ⟨through hb h.v0 ?_, through hb h.v1 ?_, through hb h.d1 ?_, through hb h.d2 ?_, through hb h.d3 ?_, throughF hb h.e1 ?_, throughF hb h.e2 ?_, throughF hb h.e3 ?_, l1, Nat.lt_of_lt_of_le l2 hb.size⟩ <;> (dsimp only; omega)
theorem places_few {W : List Int} : (places W 2).length ≤ W.length := by
  have h3 := (places_nodup (W := W) _ 2 (Nat.le_refl _)).length_le_of_subset (l₂ := List.range W.length) fun p hp => List.mem_range.2 (place_ge hp).2
  rwa [List.length_range] at h3
theorem laid_few {W : List Int} (t : Int → Int) (hu : unfit W 2 = none) (h2 : 2 ≤ W.length) (i : Nat) : (laidT t W (places W 2) i).length ≤ W.length := by
  have h0 := places_sum _ 2 (Nat.le_refl _) h2 hu
  have h1 := roomSum_sub W ((places W 2).take i) (places W 2) ((places_nodup (W := W) _ 2 (Nat.le_refl _)).sublist (List.take_sublist i _)) fun p hp => List.mem_of_mem_take hp
  unfold laidT
  simp only [List.length_cons, flat_length _ fun p hp => (fits_out (place_fit hu (List.mem_of_mem_take hp)).2.2.1).2.2.2.2]; omega

set_option maxHeartbeats 16000000 in
theorem renamed_yes (W F T roots : List Int) (ad fad tad rad : Option Addr) (cap fc tc rcap : Nat) (both : Bool) (w : World) (hr : WordsAt ad W w) (hF : RootsAt fad F w) (hT : RootsAt tad T w) (hroots : RootsAt rad roots w) (hn : F.length ≤ 5000) (hrl : roots.length ≤ 5000) (h : (rootsOf W roots).1 = 0) (P : Pairs2 W F T both) :
    Calls Try.prog 39 #[heapV ad W.length cap, .slice fad F.length fc, .slice tad T.length tc, .slice rad roots.length rcap, .bool both] w fun e w' => CollectAns (renW (otherP both (F.zip T)) W) (roots.map (otherP both (F.zip T))) w.heap.size e w' ∧ Below w.heap.size w w' := by
  have hs : Hid (∀ w0, WordsAt ad W w0 → RootsAt rad roots w0 → Calls Try.prog 25 #[heapV ad W.length cap, .slice rad roots.length rcap] w0 fun e w' => ViewAns W w0.heap.size e w' ∧ Below w0.heap.size w0 w') :=
    fun w0 h1 h2 => rsee_good W roots ad rad cap rcap w0 h1 h2 hrl h
  obtain ⟨hc, _, _⟩ := roots_zero h
  have hFine := fine_of hc
  have hu := hFine.fit
  have hl := hFine.few
  have h2 := (front_out (check_fine hc).1).1
  have HR : Hid (WordsAt ad W w) := hr
  have HO : Hid (RootsAt rad roots w) := hroots
  have HF : Hid (RootsAt fad F w) := hF
  have HT : Hid (RootsAt tad T w) := hT
  have HLs : Hid (∀ b cap bm w0, IsView w0 b cap bm W → RootsAt fad F w0 → RootsAt tad T w0 → Calls Try.prog 61 #[viewV b W.length cap bm, .slice fad F.length fc, .slice tad T.length tc] w0 fun e w' => e = .returned (.agg #[.int .i64 0, .int .i64 0]) ∧ Below w0.heap.size w0 w') :=
    fun b cap bm w0 h1 h2 h3 => by have := lists_any W F T b cap bm fad tad fc tc w0 h1 h2 h3 hn; rwa [kinds_none P.long P.kind] at this
  have HB : Hid (∀ w0, RootsAt fad F w0 → RootsAt tad T w0 → Calls Try.prog 62 #[.slice fad F.length fc, .slice tad T.length tc, .bool both] w0 fun e w' => (∃ mm, e = .returned (.tuple #[.map (some mm), .agg #[.int .i64 0, .int .i64 0]]) ∧ w0.heap.size ≤ mm ∧ IntMap w' mm (2 * F.length) (becAt both (F.zip T))) ∧ Below w0.heap.size w0 w') := fun w0 h1 h2 => by
    refine (becoming_any F T fad tad fc tc both w0 h1 h2 P.long hn).mono fun e w' hp => ⟨?_, hp.2⟩
    rcases hp.1 with ⟨j, hjl, hj, _⟩ | ⟨_, hx⟩
    · rw [P.once j hjl] at hj; cases hj
    · exact hx
  have hpw := refs_wf (ps := places W 2) fun p hp => by have := (place_ge hp).2; omega
  have HTh : Hid (∀ b cap bm w0, IsView w0 b cap bm W → Calls Try.prog 64 #[viewV b W.length cap bm] w0 fun e w' => OwnedAny w0.heap.size (refs (places W 2)) e w' ∧ Below w0.heap.size w0 w') := fun b cap bm w0 h1 => things_any W b cap bm w0 h1 hu hl
  have HK0 : Hid (laidT (otherP both (F.zip T)) W (places W 2) (places W 2).length = renW (otherP both (F.zip T)) W) := laidT_end _ _ _
  have HRl : Hid (∀ b cap bm Bm mm sad sc w0, IsView w0 b cap bm W → BecI (becAt both (F.zip T)) Bm mm (2 * F.length) w0 → RootsAt sad (refs (places W 2)) w0 → Calls Try.prog 36 #[viewV b W.length cap bm, .slice sad (refs (places W 2)).length sc, .func (.func 79) #[] #[.pointer (some ⟨Bm, 0, none⟩)]] w0 fun e w' => HeapAns (renW (otherP both (F.zip T)) W) w0.heap.size e w' ∧ Below w0.heap.size w0 w') := fun b cap bm Bm mm sad sc w0 h1 hI hst => by
    have := relaid_any _ _ (otherP both (F.zip T)) _ (bturn_turns both (F.zip T) Bm mm (2 * F.length)) W (places W 2) b cap bm sad sc w0 hI h1 hst hFine h2 (fun p hp => hp) (Nat.le_trans places_few hl) (fun i => Nat.le_trans (laid_few _ hu h2 i) hl)
    rwa [HK0.out] at this
  have HTA : Hid (∀ Bm mm w0, BecI (becAt both (F.zip T)) Bm mm (2 * F.length) w0 → RootsAt rad roots w0 → Calls Try.prog 37 #[.slice rad roots.length rcap, .func (.func 79) #[] #[.pointer (some ⟨Bm, 0, none⟩)]] w0 fun e w' => Owned w0.heap.size (roots.map (otherP both (F.zip T))) e w' ∧ Below w0.heap.size w0 w') := fun Bm mm w0 hI hro =>
    turnedAll_any _ _ (otherP both (F.zip T)) _ (bturn_turns both (F.zip T) Bm mm (2 * F.length)) roots rad rcap w0 hI hro hrl
  have HLR : Hid ((roots.map (otherP both (F.zip T))).length = roots.length) := List.length_map _
  generalize renW (otherP both (F.zip T)) W = K at *
  generalize roots.map (otherP both (F.zip T)) = L at *
  generalize places W 2 = ps at *
  generalize becAt both (F.zip T) = f at *
  clear h hr hroots hF hT P hc HK0 hFine hu h2
  go_enter Try.func39, Try.ntmps39
  go_upto_region 11 with (first | (go_at_call 25; refine (hs.out _ (fun h => let ⟨b, off, e, r⟩ := HR.out h; ⟨b, off, e, ((r.alloc _).alloc _).alloc _⟩) (HO.out.below ((((Below.refl _ _).alloc (Nat.le_refl _) _).alloc (by simp) _).alloc (by simp; omega) _))).mono ?_; rintro e w1 ⟨⟨b, cap', bm, rfl, hv, hb, hbm, hne⟩, hb1⟩; obtain ⟨⟨d1, d2, d3⟩, ⟨e1, e2, e3⟩, hz⟩ := sweepBoxes hb1; have HO1 : Hid (RootsAt rad roots w1) := HO.out.below (below3 hb1); have HF1 : Hid (RootsAt fad F w1) := HF.out.below (below3 hb1); have HT1 : Hid (RootsAt tad T w1) := HT.out.below (below3 hb1); have hv1 := (hv.alloc (.cells #[sl b W.length cap', .map (some bm)] 50)).alloc (.cells #[.int .i64 0, .int .i64 0] 28)) | (go_at_call 61; refine (HLs.out b cap' bm _ hv1 (HF1.out.below (((Below.refl _ _).alloc (Nat.le_refl _) _).alloc (by simp) _)) (HT1.out.below (((Below.refl _ _).alloc (Nat.le_refl _) _).alloc (by simp) _))).mono ?_; rintro e w2 ⟨rfl, hb2⟩; obtain ⟨vb0, vb1, vb2, vb3, hzz2⟩ := twos hb2; obtain ⟨vg2, vg3⟩ := twosF hb2; have hq2 : Below w1.heap.size w1 w2 := below2 hb2; have m1 := through hq2 d1 (by dsimp only; omega); have m2 := through hq2 d2 (by dsimp only; omega); have m3 := through hq2 d3 (by dsimp only; omega); have mf1 := throughF hq2 e1 (by dsimp only; omega); have mf2 := throughF hq2 e2 (by dsimp only; omega); have mf3 := throughF hq2 e3 (by dsimp only; omega); have hz2 : w.heap.size + 1 + 1 < w2.heap.size := (by omega); have hz21 : w1.heap.size < w2.heap.size := (by omega); have hz20 : w.heap.size + 1 < w2.heap.size := (by omega); have HF3 : Hid (RootsAt fad F (w2.alloc (.cells #[.int .i64 0, .int .i64 0] 28))) := (HF1.out.below hq2).below ((Below.refl _ _).alloc (Nat.le_refl _) _); have HT3 : Hid (RootsAt tad T (w2.alloc (.cells #[.int .i64 0, .int .i64 0] 28))) := (HT1.out.below hq2).below ((Below.refl _ _).alloc (Nat.le_refl _) _); have hv2 := hv1.same hb2) | (go_at_call 62; refine (HB.out _ HF3.out HT3.out).mono ?_; rintro e w3 ⟨⟨mm, rfl, hmm, hmap⟩, hb3⟩; have hq23 : Below w2.heap.size w2 w3 := below_call hb3; have hq3 : Below w1.heap.size w1 w3 := hq2.trans (hq23.mono hq2.size); have o1 := through hq23 m1 (by dsimp only; omega); have o2 := through hq23 m2 (by dsimp only; omega); have o3 := through hq23 m3 (by dsimp only; omega); have of1 := throughF hq23 mf1 (by dsimp only; omega); have of2 := throughF hq23 mf2 (by dsimp only; omega); have of3 := throughF hq23 mf3 (by dsimp only; omega); have vc0 := through hq23 vb0 (by dsimp only; omega); have vc1 := through hq23 vb1 (by dsimp only; omega); have vc2 := through hq23 vb2 (by dsimp only; omega); have vc3 := through hq23 vb3 (by dsimp only; omega); have vh2 := throughF hq23 vg2 (by dsimp only; omega); have vh3 := throughF hq23 vg3 (by dsimp only; omega); have hz3 : w1.heap.size + 1 < w3.heap.size := (by have := hq23.size; omega); have hz32 : w2.heap.size < w3.heap.size := (grew1' hb3); have hz33 : w.heap.size + 1 + 1 < w3.heap.size := (by omega); have hw30 := hmap.set (a := ⟨w1.heap.size + 1, 0, none⟩) (by simp at hmm; dsimp only; omega) (.int .i64 0); have hw31 := hw30.set (a := ⟨w1.heap.size + 1, 1, none⟩) (by simp at hmm; dsimp only; omega) (.int .i64 0)) | (go_at_call 63; refine (bturning_any f mm (2 * F.length) _ hw31).mono ?_; rintro e w4 ⟨rfl, hI4, hb4⟩))
  have hq34 : Below (w1.heap.size + 1) w3 w4 := (((Below.refl (w1.heap.size + 1) w3).setCell (p := ⟨w1.heap.size + 1, 0, none⟩) (Nat.le_refl _) _).setCell (p := ⟨w1.heap.size + 1, 1, none⟩) (Nat.le_refl _) _).trans (hb4.mono (by simp [World.setCell]; omega))
  have hI : BecI f w3.heap.size mm (2 * F.length) w4 := by simpa [World.setCell] using hI4
  have hz4 : w3.heap.size ≤ w4.heap.size := by have := hb4.size; simpa [World.setCell] using this
  have hq14 : Below w1.heap.size w1 w4 := hq3.trans (hq34.mono (Nat.le_succ _))
  have hv4 : IsView w4 b cap' bm W := hv.same hq14
  have hbox : RenBox w1.heap.size w.heap.size (sl b W.length cap') (.map (some bm)) w4 := by
    refine ⟨through hq34 vc0 ?_, through hq34 vc1 ?_, through hq34 o1 ?_, through hq34 o2 ?_, through hq34 o3 ?_, throughF hq34 of1 ?_, throughF hq34 of2 ?_, throughF hq34 of3 ?_, hz, by omega⟩ <;> (dsimp only; omega)
  have HO4 : Hid (RootsAt rad roots w4) := HO1.out.below hq14
  have HK : Hid (∀ wx, Below w4.heap.size w4 wx → RenBox w1.heap.size w.heap.size (sl b W.length cap') (.map (some bm)) wx) := fun wx hx => hbox.below hx
  have HTh4 : Hid (∀ wx, Below w4.heap.size w4 wx → Calls Try.prog 64 #[viewV b W.length cap' bm] wx fun e w' => OwnedAny wx.heap.size (refs ps) e w' ∧ Below wx.heap.size wx w') := fun wx hx => HTh.out b cap' bm wx (hv4.same hx)
  have HRl4 : Hid (∀ sad sc wx, Below w4.heap.size w4 wx → RootsAt sad (refs ps) wx → Calls Try.prog 36 #[viewV b W.length cap' bm, .slice sad (refs ps).length sc, .func (.func 79) #[] #[.pointer (some ⟨w3.heap.size, 0, none⟩)]] wx fun e w' => HeapAns K wx.heap.size e w' ∧ Below wx.heap.size wx w') := fun sad sc wx hx hst => HRl.out b cap' bm w3.heap.size mm sad sc wx (hv4.same hx) (hI.below hx) hst
  have HTA4 : Hid (∀ wx, Below w4.heap.size w4 wx → Calls Try.prog 37 #[.slice rad roots.length rcap, .func (.func 79) #[] #[.pointer (some ⟨w3.heap.size, 0, none⟩)]] wx fun e w' => Owned wx.heap.size L e w' ∧ Below wx.heap.size wx w') := fun wx hx => HTA.out w3.heap.size mm wx (hI.below hx) (HO4.out.below hx)
  have HPw : Hid (∀ k, (Lit.int .i64 (wd (refs ps) k)).wf = true) := hpw
  have hB4 : Hid (Below w.heap.size w w4) := (below3 hb1).trans (hq14.mono (below3 hb1).size)
  have hzN : w.heap.size + 1 + 1 < w1.heap.size := hz
  have hzM : w1.heap.size + 1 < w4.heap.size := by omega
  obtain ⟨v0, v1, d1, d2, d3, e1, e2, e3, -⟩ := hbox
  have n1 : ¬ w1.heap.size = w.heap.size + 1 := by omega
  have n2 : ¬ w.heap.size + 1 = w1.heap.size := by omega
  have n3 : ¬ w1.heap.size = w.heap.size + 1 + 1 := by omega
  have n4 : ¬ w.heap.size + 1 + 1 = w1.heap.size := by omega
  clear hb1 hv hb hbm hne hv1 hb2 vb0 vb1 vb2 vb3 vg2 vg3 hq2 m1 m2 m3 mf1 mf2 mf3 hv2 hb3 hmap hq23 hq3 o1 o2 o3 of1 of2 of3 vc0 vc1 vc2 vc3 vh2 vh3 hw30 hw31 hI4 hb4 hq34 hI hq14 hv4 HTh HRl HTA HB HLs hs HF1 HT1 HO1 HF3 HT3 hpw HO4
  go_region_held3 (fun w' => w'.cell? ⟨w1.heap.size, 0, none⟩ = some (sl b W.length cap') ∧ w'.cell? ⟨w1.heap.size, 1, none⟩ = some (.map (some bm))) (go_keep)
    (first
      | (go_at_call 64; refine (HTh4.out _ ?_).mono ?_; (first | exact QX | exact (Below.refl _ _).drew); rintro e wA ⟨⟨adA, kA, rfl, hownA⟩, hbA⟩; (first | (have QX : Below w4.heap.size w4 wA := QX.trans (hbA.mono QX.size)) | (have QX : Below w4.heap.size w4 wA := (Below.refl _ _).drew.trans hbA)); obtain ⟨v0, v1, d1, d2, d3, e1, e2, e3, lt⟩ := HK.out _ QX; have HA : Hid (RootsAt adA (refs ps) wA) := own_roots hownA HPw.out; (try (have OC := own_same OC (fun g' hg' => hbA.block g' (OC.lt g' hg').2))))
      | (go_at_call 36; refine (HRl4.out adA kA _ ?_ HA.out).mono ?_; (first | exact QX | exact (Below.refl _ _).drew); rintro e wB ⟨⟨gB, kB, rfl, hgB, OB⟩, hbB⟩; have ZB : w4.heap.size ≤ gB := Nat.le_trans QX.size hgB; have QX : Below w4.heap.size w4 wB := QX.trans (hbB.mono QX.size); obtain ⟨v0, v1, d1, d2, d3, e1, e2, e3, lt⟩ := HK.out _ QX; (try (have OC := own_same OC (fun g' hg' => hbB.block g' (OC.lt g' hg').2))))
      | (go_at_call 37; refine (HTA4.out _ ?_).mono ?_; (first | exact QX | exact (Below.refl _ _).drew); rintro e wC ⟨⟨gC, kC, rfl, hgC, OC⟩, hbC⟩; (first | (have ZC : w4.heap.size ≤ gC := Nat.le_trans QX.size hgC) | (have ZC : w4.heap.size ≤ gC := hgC)); (first | (have QX : Below w4.heap.size w4 wC := QX.trans (hbC.mono QX.size)) | (have QX : Below w4.heap.size w4 wC := (Below.refl _ _).drew.trans hbC)); obtain ⟨v0, v1, d1, d2, d3, e1, e2, e3, lt⟩ := HK.out _ QX; (try (have HA : Hid (RootsAt adA (refs ps) wC) := HA.out.below hbC)); (try (have OB := own_same OB (fun g' hg' => hbC.block g' (OB.lt g' hg').2)))))
  go_wp2_with fail
  have hend := hB4.out.trans (QX.mono hB4.out.size)
  refine bodyPost_ret (v := .tuple #[.agg #[sl gB K.length kB], sl gC L.length kC, .agg #[.int .i64 0, .int .i64 0]]) (by simp [results, Try.results39, go_sem, d1, d2, d3]) rfl ⟨⟨gB, kB, gC, kC, rfl, by omega, by omega, ?_, ?_⟩, ?_⟩
  · repeat (first | refine own_set' ?_ (by dsimp only; omega) _ | exact OB)
  · repeat (first | refine own_set' ?_ (by dsimp only; omega) _ | exact OC)
  · repeat (first | refine Below.drew ?_ | refine Below.setCell ?_ (by dsimp only; omega) _ | exact hend)
end Go.Proofs.Ytgggmdanpdggpab
