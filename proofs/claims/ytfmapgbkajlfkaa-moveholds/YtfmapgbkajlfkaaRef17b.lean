/- gessoref17.Move. -/
import Derived.Test.YtfmapgbkajlfkaaRef17a
import Derived.Test.YtfmapgbkajlfkaaRefRoots
namespace Go.Proofs.Ytfmapgbkajlfkaa
open Go.RowKit

/-- What the document's Move answers. -/
def RMvAns (K L : List Int) (B : Nat) (e : Ending) (w : World) : Prop :=
  ∃ g c v, e = .returned (.tuple #[.agg #[sl g K.length c], v]) ∧ w.ownsRow 0 3 1 (sl g K.length c) K.length (vals K) ∧ w.ownsRow B 3 1 v L.length (vals L)
/-- The first words of one list, and those of another behind. -/
def mixL (F O : List Int) (m : Nat) : List Int := F.take m ++ O.drop m
theorem mixL_length {F O : List Int} (h : F.length = O.length) (m : Nat) : (mixL F O m).length = O.length := by
  unfold mixL; rw [List.length_append, List.length_take, List.length_drop]; omega
theorem mixL_at {F O : List Int} (h : F.length = O.length) {m j : Nat} (hj : j < O.length) : wd (mixL F O m) j = if j < m then wd F j else wd O j := by
  unfold mixL wd
  rw [List.getD_eq_getElem?_getD, List.getD_eq_getElem?_getD, List.getD_eq_getElem?_getD, List.getElem?_append, List.length_take]
  by_cases h1 : j < m
  · rw [if_pos h1, if_pos (by omega), List.getElem?_take, if_pos h1]
  · rw [if_neg h1]
    by_cases h2 : m ≤ F.length
    · rw [if_neg (by omega), List.getElem?_drop, show m + (j - min m F.length) = j by omega]
    · omega
theorem wd_extF {a b : List Int} (hl : a.length = b.length) (h : ∀ j, j < a.length → wd a j = wd b j) : a = b := by
  refine List.ext_getElem hl fun j h1 h2 => ?_
  have := h j h1
  unfold wd at this
  rw [List.getD_eq_getElem?_getD, List.getD_eq_getElem?_getD, List.getElem?_eq_getElem h1, List.getElem?_eq_getElem h2] at this
  exact this
theorem mixL_set {F O : List Int} (h : F.length = O.length) {m : Nat} (hm : m < O.length) : (mixL F O m).set m (wd F m) = mixL F O (m + 1) := by
  refine wd_extF (by rw [List.length_set, mixL_length h, mixL_length h]) fun j hj => ?_
  rw [List.length_set, mixL_length h] at hj
  rw [mixL_at h hj]
  by_cases e : m = j
  · subst e; rw [wd_set_same (by rw [mixL_length h]; exact hm), if_pos (by omega)]
  · rw [wd_set_other e, mixL_at h hj]
    by_cases h1 : j < m
    · rw [if_pos h1, if_pos (by omega)]
    · rw [if_neg h1, if_neg (by omega)]
theorem mixL_skip {F O : List Int} (h : F.length = O.length) {m : Nat} (hm : m < O.length) (he : wd F m = wd O m) : mixL F O m = mixL F O (m + 1) := by
  rw [← mixL_set h hm]
  refine wd_extF (by rw [List.length_set]) fun j hj => ?_
  by_cases e : m = j
  · subst e; rw [wd_set_same hj, mixL_at h hm, if_neg (by omega), he]
  · rw [wd_set_other e]
/-- Where Move stands as references turn: up to m they have. -/
structure MxR (w : World) (F O T : List Int) (B g n c l m : Nat) : Prop where
  own : w.ownsRow B 3 1 (sl g n c) n (vals (mixL F O m))
  came : w.ownsRow 0 3 1 (sl B l l) l (vals T)
  apart : g ≠ B
  len : F.length = O.length ∧ O.length = n
theorem MxR.put {w : World} {F O T : List Int} {B g n c l m : Nat} (h : MxR w F O T B g n c l m) (hm : m < n) : MxR (w.setCell ⟨g, m, none⟩ (.int .i64 (wd F m))) F O T B g n c l (m + 1) := by
  refine ⟨?_, ownsRow_setCell_other h.came (a := ⟨g, m, none⟩) (fun e => h.apart (by injection e with e; exact e.symm)) _, h.apart, h.len⟩
  have := (h.own.stored m (.int .i64 (wd F m))).1
  rw [show (vals (mixL F O m)).set m (.int .i64 (wd F m)) = vals (mixL F O (m + 1)) by rw [← mixL_set h.len.1 (by rw [h.len.2]; exact hm)]; simp [vals, List.map_set]] at this
  exact this
theorem MxR.skip {w : World} {F O T : List Int} {B g n c l : Nat} : ∀ (d : Nat) {m : Nat}, MxR w F O T B g n c l m → m + d ≤ n → (∀ j, j < d → wd F (m + j) = wd O (m + j)) → MxR w F O T B g n c l (m + d)
  | 0, _, h, _, _ => h
  | d + 1, m, h, hm, he => by
    have h1 : MxR w F O T B g n c l (m + 1) := ⟨by rw [← mixL_skip h.len.1 (by rw [h.len.2]; omega) (he 0 (by omega))]; exact h.own, h.came, h.apart, h.len⟩
    have := MxR.skip d h1 (by omega) (fun j hj => by have := he (j + 1) (by omega); rw [show m + 1 + j = m + (j + 1) by omega]; exact this)
    rw [show m + (d + 1) = m + 1 + d by omega]; exact this
theorem MxR.read {w : World} {F O T : List Int} {B g n c l m : Nat} (h : MxR w F O T B g n c l m) {j : Nat} (hj : j < n) : w.cell? ⟨g, j, none⟩ = some (.int .i64 (if j < m then wd F j else wd O j)) := by
  rw [own_wd h.own hj, mixL_at h.len.1 (by rw [h.len.2]; exact hj)]
theorem atF_new {W f : List Int} (hn : (f.map pl2).Nodup) {k : Nat} (hk : k < f.length) : newAt W 2 (f.map pl2) (pl2 (wd f k)) = atF W f k := by
  have hk' : k < (f.map pl2).length := by simpa using hk
  have e : f.map pl2 = (f.map pl2).take k ++ (f.map pl2)[k] :: (f.map pl2).drop (k + 1) := by rw [← List.drop_eq_getElem_cons hk', List.take_append_drop]
  have hnot : (f.map pl2)[k] ∉ (f.map pl2).take k := fun hm => by
    have hn' := hn
    rw [e, List.nodup_append] at hn'
    exact hn'.2.2 _ hm _ (List.mem_cons_self ..) rfl
  have := newAt_split (W := W) (post := (f.map pl2).drop (k + 1)) (top := 2) hnot
  rw [← e, pl_at hk] at this
  exact this
/-- What the words are about the k-th, ahead and behind. -/
theorem moved_words {W R f : List Int} (M : Moves W R (f.map pl2)) {k a p : Nat} (hk : k < f.length) (ha : a = atF W f k) (hp : p = pl2 (wd f k)) :
    (wd (movedW W (f.map pl2)) a = turnP W (f.map pl2) (wd W p)) ∧ (∀ j, j < 2 → wd (movedW W (f.map pl2)) (a + 1 + j) = wd (oldW W (f.map pl2)) (a + 1 + j)) ∧ wd (movedW W (f.map pl2)) (a + 2) = wd W (p + 2) ∧
    (∀ j, j < roomAt W p → wd (oldW W (f.map pl2)) (a + j) = wd W (p + j)) ∧ (∀ j, j < slotsAt W p → wd (movedW W (f.map pl2)) (a + 3 + j) = if formAt W p = 1 then wd W (p + 3 + j) else turnP W (f.map pl2) (wd W (p + 3 + j))) := by
  have hm : p ∈ f.map pl2 := by rw [hp]; exact List.mem_map.2 ⟨_, wd_mem hk, rfl⟩
  have e : newAt W 2 (f.map pl2) p = a := by rw [ha, hp]; exact atF_new M.once hk
  have hold : ∀ j, j < roomAt W p → wd (oldW W (f.map pl2)) (a + j) = wd W (p + j) := fun j hj => by
    have := oldW_at (W := W) (qs := f.map pl2) (fun q hq => M.room hq) (k := k) (j := j) (by simpa using hk) (by rw [pl_at hk, ← hp]; exact hj)
    rw [pl_at hk, ← hp] at this
    rw [ha]; exact this
  have h1 := M.hash hm
  have h2 := M.shape hm
  rw [e] at h1 h2
  refine ⟨by rw [← e]; exact M.cls hm, fun j hj => ?_, h2, hold, fun j hj => by rw [← e]; exact M.slot hm hj⟩
  have hr : roomAt W p = 3 + slotsAt W p := rfl
  match j, hj with
  | 0, _ => rw [Nat.add_zero, h1, hold 1 (by omega)]
  | 1, _ => rw [show a + 1 + 1 = a + 2 by omega, h2, hold 2 (by omega)]
set_option maxRecDepth 100000 in
set_option maxHeartbeats 8000000 in
theorem rmove_any (W roots : List Int) (b off cap : Nat) (rad : Option Addr) (rcap : Nat) (w : World) (hr : Row w b off W) (hroots : RootsAt rad roots w) (hrl : roots.length ≤ 5000) (hc : (checkOf W).1 = 0) (hok : ∀ x ∈ roots, okRef W x) (hcap : W.length ≤ cap) :
    Calls Try.prog 9 #[heapV (some ⟨b, off, none⟩) W.length cap, .slice rad roots.length rcap] w fun e w' => (∃ f, Bfs W roots f ∧ RMvAns (movedW W (f.map pl2)) (roots.map (turnP W (f.map pl2))) w.heap.size e w') ∧ Below w.heap.size w w' := by
  obtain ⟨i0, hi, hz0, hz1, hz2⟩ := info_parts info3
  have hf := fine_of hc
  have hl := hf.few
  have h2 : 2 ≤ W.length := (front_out (check_fine hc).1).1
  have HO : Hid (RootsAt rad roots w) := hroots
  have HK : Hid (∀ x ∈ roots, okRef W x) := hok
  have hrlt := hr.lt
  clear hroots hok
  go_enter Try.func9, Try.ntmps9
  go_wp2_with (at_make; refine wpList_make_full _ rfl _ _ 22 rfl (w.heap.size + 1 + 1) 3 i0 (.int .i64 0) 1 ty30 hi hz0 hz1 _ _ _ _ W.length rfl rfl rfl rfl (by rw [hz2]; omega) (by unfold maxLen; omega) (by simp) ?_; intro w2 hown2 hgrow2)
  have hB2 : Below (w.heap.size + 1 + 1) ((w.alloc (.cells #[.slice (some ⟨b, off, none⟩) W.length cap] 24)).alloc (.cells #[.slice none 0 0] 24)) w2 := (Below.refl _ _).grown hgrow2 (by simp) (fun k hk => by cases hk)
  have hT2 : w2.ownsRow 0 3 1 (sl (w.heap.size + 1 + 1) W.length W.length) W.length (vals (List.replicate W.length 0)) := by
    have := own_mono (Nat.zero_le _) hown2
    simpa [toList_madeCells_one, vals, Value.cells] using this
  have hrow2 : Row w2 b off W := ((hr.alloc _).alloc _).below hB2 (by omega)
  have htl2 := own_lt hT2
  have hc0 := hrow2.cell 0 (by omega)
  have hc1 := hrow2.cell 1 (by omega)
  rw [Nat.add_zero] at hc0
  have hl0 : 0 < W.length := by omega
  have hl1 : 1 < W.length := by omega
  have hrl3 := hrow2.lt
  have HB2 : Hid (Below w.heap.size w w2) := (((Below.refl _ w).alloc (Nat.le_refl _) _).alloc (by simp) _).trans (hB2.mono (by omega))
  have HC2 : Hid (w2.cell? ⟨w.heap.size + 1, 0, none⟩ = some (.slice none 0 0) ∧ w2.frozen? ⟨w.heap.size + 1, 0, none⟩ = false) := ⟨by rw [hB2.cell (p := ⟨w.heap.size + 1, 0, none⟩) (by simp)]; simp, by rw [hB2.frozen (p := ⟨w.heap.size + 1, 0, none⟩) (by simp)]; simp⟩
  clear hown2 hgrow2 hB2 hr
  go_region
  all_goals go_wp2_with fail
  obtain ⟨B, hBe⟩ : ∃ B, B = w.heap.size + 1 + 1 := ⟨_, rfl⟩
  have HBe : Hid (B = w.heap.size + 1 + 1) := hBe
  rw [← hBe] at hT2 htl2 ⊢
  have hM3 : MvR (w2.alloc (.cells #[.int .i64 (wd W 0), .int .i64 (wd W 1)] 3)).drew W b off B B w2.heap.size 2 2 (come W [] (roots.take 0)) := by
    have hbl : b < B := by omega
    have hown3 : (w2.alloc (.cells #[.int .i64 (wd W 0), .int .i64 (wd W 1)] 3)).drew.ownsRow B 3 1 (sl w2.heap.size 2 2) 2 (vals (oldW W [])) := by
      have := World.ownsRow_lit (base := w2.heap.size) (e := 3) (size := 1) w2 #[.int .i64 (wd W 0), .int .i64 (wd W 1)] 2 (Nat.le_refl _) (by decide) rfl
      exact own_mono (by omega) this.drew
    have hb3 : Below w2.heap.size w2 (w2.alloc (.cells #[.int .i64 (wd W 0), .int .i64 (wd W 1)] 3)).drew := ((Below.refl _ _).alloc (Nat.le_refl _) _).drew
    exact ⟨hrow2.same hb3, hbl, Nat.le_refl _, rfl, hown3, ⟨_, TOk.start W, ownsRow_below hT2 hb3 htl2⟩, by omega, List.nodup_nil, fun o ho => by cases ho⟩
  have hB3 : Below B w2 (w2.alloc (.cells #[.int .i64 (wd W 0), .int .i64 (wd W 1)] 3)).drew := ((Below.refl _ _).alloc (by omega) _).drew
  have hsz2 : B ≤ w2.heap.size := by omega
  clear hc0 hc1 hl0 hl1 hT2 hrow2 hrl3 hBe
  go_loopw [8, 10] (fun s8 s10 wr => ∃ (i g n c : Nat), s10 = .int .i64 i ∧ s8 = sl g n c ∧ i ≤ roots.length ∧ Hid (MvR wr W b off B B g n c (come W [] (roots.take i))) ∧ Hid (Below B w2 wr)) (fun _ s10 _ => 6000 - (intOf s10).toNat)
  case atStart => exact ⟨0, _, 2, 2, rfl, rfl, Nat.zero_le _, hM3, hB3⟩
  case round =>
    clear hM3 hB3
    obtain ⟨i, g, n, c, rfl, rfl, hi1, HM, HB⟩ := hrel
    have hszr : B ≤ wr.heap.size := by have := HB.out.size; omega
    have HBW : Hid (Below w.heap.size w wr) := HB2.out.trans (HB.out.mono (by have := HBe.out; omega))
    by_cases hlt : i < roots.length
    · obtain ⟨rb, ro, hrad, hrr⟩ := HO.out (by omega)
      subst hrad
      have hcr : wr.cell? ⟨rb, ro + i, none⟩ = some (.int .i64 (wd roots i)) := (hrr.same HBW.out).cell i hlt
      have hrbl := (hrr.same HBW.out).lt
      have hoki := HK.out _ (wd_mem hlt)
      have hir : (i : Int) < (roots.length : Int) := by omega
      have hwi := wrap_id (x := (i : Int) + 1) (by omega) (by omega)
      have HS : Hid (come W [] (roots.take (i + 1)) = come W (come W [] (roots.take i)) [wd roots i]) := by rw [take_snoc hlt, come_snoc]; exact rfl
      have hcl := rcopy_any W b off cap B B g n c _ (wd roots i) wr HM.out hszr hf h2 hcap hoki
      clear hrr
      go_wp2_with (go_at_call 24; refine hcl.mono ?_; rintro e w4 ⟨g4, n4, c4, rfl, hM4, hb4⟩)
      go_roundw
      case rel => exact ⟨i + 1, g4, n4, c4, by first | rfl | simp, rfl, by omega, by rw [HS.out]; exact hM4, HB.out.trans hb4⟩
      case measure => simp [intOf]; omega
    · have he : i = roots.length := by omega
      have hir : ¬ (i : Int) < (roots.length : Int) := by omega
      have HM0 : Hid (MvR wr W b off B B g n c (come W [] roots)) := by have := HM.out; rw [he, List.take_length] at this; exact this
      obtain ⟨g0, eg0⟩ : ∃ g0, g0 = g := ⟨_, rfl⟩
      obtain ⟨n0, en0⟩ : ∃ n0, n0 = n := ⟨_, rfl⟩
      obtain ⟨c0, ec0⟩ : ∃ c0, c0 = c := ⟨_, rfl⟩
      obtain ⟨w5, ew5⟩ : ∃ w5, w5 = wr := ⟨_, rfl⟩
      subst eg0 en0 ec0 ew5
      clear HM he
      go_wp2_with fail
      go_loopw [8, 11] (fun s8 s11 wr => ∃ (k a g n c : Nat) (f : List Int), s11 = .int .i64 a ∧ s8 = sl g n c ∧ Hid (Way W roots f k) ∧ Hid (a = atF W f k) ∧ Hid (k ≤ f.length) ∧ Hid (MvR wr W b off B B g n c f) ∧ Hid (Below B w5 wr)) (fun _ s11 _ => 3000 - (intOf s11).toNat)
      case atStart => exact ⟨0, 2, g0, n0, c0, _, rfl, rfl, .start, by unfold atF; simp [roomSum, Hid], Nat.zero_le _, HM0.out, Below.refl _ _⟩
      case round =>
        clear HM0
        rename_i wr
        obtain ⟨k, a, g, n, c, f, rfl, rfl, HY, HA, HKL, HM, HB5⟩ := hrel
        have hszr : B ≤ wr.heap.size := by have := HB5.out.size; omega
        obtain ⟨hsum, hnn⟩ := HM.out.sum hf h2
        have hale : a ≤ n := by rw [HA.out, hnn]; exact atF_le W f k
        have hn2 : n ≤ 2000 := by omega
        have HNN : Hid (n = 2 + roomSum W (f.map pl2)) := hnn
        clear hnn hsum
        by_cases hkl : k < f.length
        · obtain ⟨p, hp⟩ : ∃ p, p = pl2 (wd f k) := ⟨_, rfl⟩
          have hreach := HY.out.along.all _ (wd_mem hkl)
          have hmem : p ∈ places W 2 := by rw [hp]; exact (reached_place hreach).1
          have hroom := hf.room p hmem
          have hfo := fits_out (place_fit hf.fit hmem).2.2.1
          have hnx : atF W f (k + 1) = a + roomAt W p := by rw [atF_next hkl, ← hp, HA.out]
          have hra : roomAt W p = 3 + slotsAt W p := rfl
          have hlen : a + roomAt W p ≤ n := by rw [← hnx, HNN.out]; exact atF_le W f (k + 1)
          have HRD : Hid (∀ (w' : World) (t : List Int) (g' n' c' : Nat), MvR w' W b off B B g' n' c' (f ++ t) → (∀ j, j < roomAt W p → w'.cell? ⟨g', a + j, none⟩ = some (.int .i64 (wd W (p + j)))) ∧ a + roomAt W p ≤ n' ∧ n' ≤ 2000 ∧ g' < w'.heap.size) := fun w' t g' n' c' hM' => by
            have hk' : k < (f ++ t).length := by rw [List.length_append]; omega
            have e1 : atF W (f ++ t) k = a := by rw [atF_ext t HKL.out, HA.out]
            have e2 : pl2 (wd (f ++ t) k) = p := by rw [wd_left hkl, hp]
            obtain ⟨q1, q2⟩ := hM'.sum hf h2
            have q3 := atF_next (W := W) hk'
            have q4 := atF_le W (f ++ t) (k + 1)
            rw [e1, e2] at q3
            refine ⟨fun j hj => ?_, by omega, by omega, own_lt hM'.own⟩
            have := (hM'.read hf h2 hk' (j := j) (by rw [e2]; exact hj)).1
            rw [e1, e2] at this; exact this
          have HY' : Hid (Way W roots (come W f (leadsAt W p)) (k + 1)) := by rw [hp]; exact .next HY.out hkl
          have HNX : Hid (∀ t, atF W (f ++ t) (k + 1) = a + roomAt W p) := fun t => by rw [atF_ext t (by omega), hnx]
          have hokc := hf.cls p hmem
          have hslot := hf.slot p hmem
          obtain ⟨r0, _, _, hgl⟩ := HRD.out wr [] g n c (by rw [List.append_nil]; exact HM.out)
          have ha0 := r0 0 (by omega)
          rw [Nat.add_zero, Nat.add_zero] at ha0
          have hai : (a : Int) < (n : Int) := by omega
          have hcl := rcopy_any W b off cap B B g n c f (wd W p) wr HM.out hszr hf h2 hcap hokc
          have hw3 := wrap_id (x := (a : Int) + 3) (by omega) (by omega)
          clear r0 hreach hp hnx
          go_wp2_with (go_at_call 24; refine hcl.mono ?_; rintro e w6 ⟨g6, n6, c6, rfl, hM6, hb6⟩)
          have hsq : (wd W (p + 2)).tdiv 4 = (slotsAt W p : Nat) := by rw [Int.tdiv_eq_ediv_of_nonneg hfo.2.1]; unfold slotsAt; omega
          have htm : (wd W (p + 2)).tmod 4 = formAt W p := Int.tmod_eq_emod_of_nonneg hfo.2.1
          have hws := wrap_id (x := ((slotsAt W p : Nat) : Int)) (by omega) (by omega)
          have hwt := wrap_id (x := (a : Int) + 3 + ((slotsAt W p : Nat) : Int)) (by omega) (by omega)
          have hw2 := wrap_id (x := (a : Int) + 2) (by omega) (by omega)
          have hfr : 0 ≤ formAt W p ∧ formAt W p ≤ 2 := by unfold formAt; omega
          have hwf := wrap_id (x := formAt W p) (by omega) (by omega)
          have hta2 : ((a : Int) + 2).toNat = a + 2 := by omega
          have HB6 : Hid (Below B w5 w6) := HB5.out.trans hb6
          have HM6 : Hid (MvR w6 W b off B B g6 n6 c6 (come W f [wd W p])) := hM6
          clear hcl hM6 hb6 ha0 hai HM HB5 hgl hszr hlen hale hn2 HNN
          go_loopw [8, 12] (fun s8 s12 wr => ∃ (j q g n c : Nat), s12 = .int .i64 q ∧ s8 = sl g n c ∧ Hid (q = a + 3 + j) ∧ Hid (j ≤ slotsAt W p) ∧ Hid (formAt W p ≠ 0 → j = 0) ∧ Hid (MvR wr W b off B B g n c (come W f (wd W p :: (slotList W p).take j))) ∧ Hid (Below B w5 wr)) (fun _ s12 _ => 9000 - (intOf s12).toNat)
          case atStart => exact ⟨0, a + 3, g6, n6, c6, by first | rfl | simp, rfl, rfl, Nat.zero_le _, fun _ => rfl, by rw [List.take_zero]; exact HM6.out, HB6.out⟩
          case round =>
            clear HM6 HB6
            rename_i wr
            obtain ⟨j, q, g, n, c, rfl, rfl, HQ, HJ, HJ0, HM, HB7⟩ := hrel
            obtain ⟨t, ht⟩ := come_ext W (wd W p :: (slotList W p).take j) f
            obtain ⟨r0, r1, r2, hgl⟩ := HRD.out wr t g n c (by rw [← ht]; exact HM.out)
            have ha2 := r0 2 (by omega)
            have hi2 : (a : Int) + 2 < (n : Int) := by omega
            have hszr : B ≤ wr.heap.size := by have := HB7.out.size; omega
            have hq2 : q ≤ 2000 := by have := HQ.out; have := HJ.out; omega
            have HT : Hid (come W f (wd W p :: (slotList W p).take j) = f ++ t) := ht
            clear ht
            by_cases hgo : j < slotsAt W p ∧ formAt W p = 0
            · obtain ⟨hjs, hf0⟩ := hgo
              have hkni : (q : Int) < (a : Int) + 3 + ((slotsAt W p : Nat) : Int) := by have := HQ.out; omega
              have haq : wr.cell? ⟨g, q, none⟩ = some (.int .i64 (wd W (p + 3 + j))) := by
                have := r0 (3 + j) (by omega)
                rw [show a + (3 + j) = q by have := HQ.out; omega, show p + (3 + j) = p + 3 + j by omega] at this
                exact this
              have hqn : (q : Int) < (n : Int) := by have := HQ.out; omega
              have hokj := hslot (by rw [hf0]; decide) j hjs
              have hwq := wrap_id (x := (q : Int) + 1) (by omega) (by omega)
              have hcl := rcopy_any W b off cap B B g n c _ (wd W (p + 3 + j)) wr HM.out hszr hf h2 hcap hokj
              have HS : Hid (come W f (wd W p :: (slotList W p).take (j + 1)) = come W (come W f (wd W p :: (slotList W p).take j)) [wd W (p + 3 + j)]) := by
                rw [take_snoc (by rw [slotList_length hroom]; exact hjs), slotList_at hjs, ← List.cons_append, come_snoc]; exact rfl
              have HQ' : Hid (q + 1 = a + 3 + (j + 1)) := by have := HQ.out; exact (by omega : q + 1 = a + 3 + (j + 1))
              have HJ' : Hid (j + 1 ≤ slotsAt W p ∧ formAt W p = 0) := ⟨hjs, hf0⟩
              rw [hf0] at htm hwf
              clear r0 hjs hf0 hslot hokj
              go_wp2_with (go_at_call 24; refine hcl.mono ?_; rintro e w8 ⟨g8, n8, c8, rfl, hM8, hb8⟩)
              go_roundw
              case rel => exact ⟨j + 1, q + 1, g8, n8, c8, by first | rfl | simp, rfl, HQ', HJ'.out.1, fun h => absurd HJ'.out.2 h, by rw [HS.out]; exact hM8, HB7.out.trans hb8⟩
              case measure => simp [intOf]; omega
            · have HLE : Hid (come W f (wd W p :: (slotList W p).take j) = come W f (leadsAt W p)) := by
                unfold leadsAt
                by_cases h0 : formAt W p = 0
                · have e : j = slotsAt W p := by have := HJ.out; have : ¬ j < slotsAt W p := fun h => hgo ⟨h, h0⟩; omega
                  have e3 : (slotList W p).take j = slotList W p := List.take_of_length_le (by rw [slotList_length hroom]; omega)
                  rw [if_pos h0, e3]; exact rfl
                · rw [if_neg h0, HJ0.out h0, List.take_zero]; exact rfl
              have HEND : Hid (Way W roots (come W f (wd W p :: (slotList W p).take j)) (k + 1) ∧ a + roomAt W p = atF W (come W f (wd W p :: (slotList W p).take j)) (k + 1) ∧ k + 1 ≤ (come W f (wd W p :: (slotList W p).take j)).length) :=
                ⟨by rw [HLE.out]; exact HY'.out, by rw [HT.out, HNX.out], by rw [HT.out, List.length_append]; omega⟩
              have hsum3 : (a : Int) + 3 + ((slotsAt W p : Nat) : Int) = ((a + roomAt W p : Nat) : Int) := by omega
              by_cases hjs : j < slotsAt W p
              · have hf0 : formAt W p ≠ 0 := fun h => hgo ⟨hjs, h⟩
                have hkni : (q : Int) < (a : Int) + 3 + ((slotsAt W p : Nat) : Int) := by have := HQ.out; omega
                have hbe : (formAt W p == 0) = false := by simpa using hf0
                clear r0 hgo hjs hf0 hslot
                go_wp2_with fail
                go_roundw
                case rel => exact ⟨k + 1, a + roomAt W p, g, n, c, _, by first | rfl | simp [hsum3], rfl, HEND.out.1, HEND.out.2.1, HEND.out.2.2, HM.out, HB7.out⟩
                case measure => simp [intOf]; omega
              · have hkni : ¬ (q : Int) < (a : Int) + 3 + ((slotsAt W p : Nat) : Int) := by have := HQ.out; omega
                clear r0 hgo hjs hslot
                go_wp2_with fail
                go_roundw
                case rel => exact ⟨k + 1, a + roomAt W p, g, n, c, _, by first | rfl | simp [hsum3], rfl, HEND.out.1, HEND.out.2.1, HEND.out.2.2, HM.out, HB7.out⟩
                case measure => simp [intOf]; omega
        · have hkl' : f.length ≤ k := by omega
          have HBF : Hid (Bfs W roots f) := HY.out.ends hkl'
          have M := HBF.out.moves hc HK.out
          have hkf : k = f.length := by have := HKL.out; omega
          have han : a = n := by rw [HA.out, hkf, atF_all, HNN.out]
          subst han
          have hir2 : ¬ (a : Int) < (a : Int) := by omega
          have hFl : (movedW W (f.map pl2)).length = a := by rw [M.length, HNN.out]
          have hOl : (oldW W (f.map pl2)).length = a := HM.out.size.symm
          obtain ⟨T, hTk, hTo⟩ := HM.out.came
          have hMx : Hid (MxR wr (movedW W (f.map pl2)) (oldW W (f.map pl2)) T B g a c W.length 2) := by
            have h0 : MxR wr (movedW W (f.map pl2)) (oldW W (f.map pl2)) T B g a c W.length 0 := ⟨by unfold mixL; rw [List.take_zero, List.drop_zero, List.nil_append]; exact HM.out.own, hTo, HM.out.apart, by omega, hOl⟩
            exact h0.skip 2 (by have := HNN.out; omega) (fun j hj => by
              match j, hj with
              | 0, _ => rfl
              | 1, _ => rfl)
          have hsT : 2 + roomSum W (f.map pl2) ≤ 2000 := by rw [← HNN.out]; exact hn2
          have HW : Hid (∀ (k' a' p' : Nat), k' < f.length → a' = atF W f k' → p' = pl2 (wd f k') → p' ∈ places W 2 ∧ a' + roomAt W p' ≤ a ∧ a' + roomAt W p' = atF W f (k' + 1) ∧ (wd (movedW W (f.map pl2)) a' = turnP W (f.map pl2) (wd W p')) ∧ (∀ j, j < 2 → wd (movedW W (f.map pl2)) (a' + 1 + j) = wd (oldW W (f.map pl2)) (a' + 1 + j)) ∧ wd (movedW W (f.map pl2)) (a' + 2) = wd W (p' + 2) ∧
              (∀ j, j < roomAt W p' → wd (oldW W (f.map pl2)) (a' + j) = wd W (p' + j)) ∧ (∀ j, j < slotsAt W p' → wd (movedW W (f.map pl2)) (a' + 3 + j) = if formAt W p' = 1 then wd W (p' + 3 + j) else turnP W (f.map pl2) (wd W (p' + 3 + j)))) := fun k' a' p' h1 h3 h4 =>
            ⟨by rw [h4]; exact M.place (List.mem_map.2 ⟨_, wd_mem h1, rfl⟩), by rw [h3, h4, ← atF_next h1, HNN.out]; exact atF_le W f (k' + 1), by rw [h3, h4, ← atF_next h1], moved_words M h1 h3 h4⟩
          have HAE : Hid (∀ k', k' ≤ f.length → atF W f k' = a → mixL (movedW W (f.map pl2)) (oldW W (f.map pl2)) a = movedW W (f.map pl2)) := fun _ _ _ => by unfold mixL; rw [← hFl, List.take_length, hFl, ← hOl, List.drop_length, List.append_nil]
          have HLT : Hid (∀ k', k' ≤ f.length → ¬ k' < f.length → atF W f k' = a) := fun k' h1 h3 => by rw [show k' = f.length by omega, atF_all, HNN.out]
          have HFN : Hid ((movedW W (f.map pl2)).length = a) := hFl
          obtain ⟨w9, ew9⟩ : ∃ w9, w9 = wr := ⟨_, rfl⟩
          subst ew9
          have hgB : B ≤ g := (HM.out.own.lt g rfl).1
          have ha2 : 2 ≤ a := by have := HNN.out; omega
          have HBQ : Hid (Below B w2 w9) := HB.out.trans HB5.out
          have HB9 : Hid (Below w.heap.size w w9) := HBW.out.trans (HB5.out.mono (by have := HBe.out; omega))
          generalize hFE : movedW W (f.map pl2) = F at *
          have HFE : Hid (movedW W (f.map pl2) = F) := hFE
          clear hFE
          generalize oldW W (f.map pl2) = O at *
          clear HY HA HKL HM hkl hkl' hkf hale HNN hFl hOl hTo HBW HB HB5 HB2 M
          go_wp2_with fail
          go_loopw [13] (fun s13 wr => ∃ (k' a' : Nat), s13 = .int .i64 a' ∧ Hid (a' = atF W f k') ∧ Hid (k' ≤ f.length) ∧ a' ≤ a ∧ Hid (MxR wr F O T B g a c W.length a') ∧ Hid (Below B w9 wr)) (fun s13 _ => 3000 - (intOf s13).toNat)
          case atStart => exact ⟨0, 2, rfl, by unfold atF; simp [roomSum, Hid], Nat.zero_le _, ha2, hMx.out, Below.refl _ _⟩
          case round =>
            clear hMx
            rename_i wr
            obtain ⟨k', a', rfl, HA, HKL, hle, HX, HBX⟩ := hrel
            have hgl := own_lt HX.out.own
            by_cases hkl : k' < f.length
            · obtain ⟨p, hp⟩ : ∃ p, p = pl2 (wd f k') := ⟨_, rfl⟩
              obtain ⟨hmem, hrm, hnx, q0, q1, q2, q3, q4⟩ := HW.out k' a' p hkl HA.out hp
              have hfo := fits_out (place_fit hf.fit hmem).2.2.1
              have hra : roomAt W p = 3 + slotsAt W p := rfl
              have HQ4 : Hid (∀ j, j < slotsAt W p → wd F (a' + 3 + j) = if formAt W p = 1 then wd W (p + 3 + j) else turnP W (f.map pl2) (wd W (p + 3 + j))) := q4
              have HQ3 : Hid (∀ j, j < roomAt W p → wd O (a' + j) = wd W (p + j)) := q3
              have HNX : Hid (a' + roomAt W p = atF W f (k' + 1)) := hnx
              have hai : (a' : Int) < (a : Int) := by omega
              have hc0 : wr.cell? ⟨g, a', none⟩ = some (.int .i64 (wd W p)) := by
                rw [HX.out.read (by omega), if_neg (by omega)]
                have := HQ3.out 0 (by omega)
                rw [Nat.add_zero, Nat.add_zero] at this; rw [this]
              have hfz := HX.out.own.frozenAt a'
              have htb := own_lt HX.out.came
              have hokc := hf.cls p hmem
              have hslot := hf.slot p hmem
              have hno := rnow17_any T W (f.map pl2) B W.length (wd W p) wr (fun j hj => own_wd HX.out.came hj) htb hTk hsT hokc
              have hX1 : MxR (wr.setCell ⟨g, a', none⟩ (.int .i64 (turnP W (f.map pl2) (wd W p)))) F O T B g a c W.length (a' + 3) := by
                have := HX.out.put (show a' < a by omega)
                rw [q0] at this
                exact this.skip 2 (by omega) q1
              have HX1 : Hid (MxR (wr.setCell ⟨g, a', none⟩ (.int .i64 (turnP W (f.map pl2) (wd W p)))) F O T B g a c W.length (a' + 3)) := hX1
              have HBX1 : Hid (Below B w9 (wr.setCell ⟨g, a', none⟩ (.int .i64 (turnP W (f.map pl2) (wd W p))))) := HBX.out.setCell (p := ⟨g, a', none⟩) hgB _
              have HQ2 : Hid (wd F (a' + 2) = wd W (p + 2)) := q2
              have hw3 := wrap_id (x := (a' : Int) + 3) (by omega) (by omega)
              clear q0 q1 q2 q3 q4 hnx hp hX1 HX HBX
              go_wp2_with (go_at_call 25; refine hno.mono ?_; rintro e w4 ⟨rfl, hw4⟩; rw [hw4]; clear hw4 w4)
              have hsq : (wd W (p + 2)).tdiv 4 = (slotsAt W p : Nat) := by rw [Int.tdiv_eq_ediv_of_nonneg hfo.2.1]; unfold slotsAt; omega
              have htm : (wd W (p + 2)).tmod 4 = formAt W p := Int.tmod_eq_emod_of_nonneg hfo.2.1
              have hws := wrap_id (x := ((slotsAt W p : Nat) : Int)) (by omega) (by omega)
              have hwt := wrap_id (x := (a' : Int) + 3 + ((slotsAt W p : Nat) : Int)) (by omega) (by omega)
              have hw2 := wrap_id (x := (a' : Int) + 2) (by omega) (by omega)
              have hfr : 0 ≤ formAt W p ∧ formAt W p ≤ 2 := by unfold formAt; omega
              have hwf := wrap_id (x := formAt W p) (by omega) (by omega)
              have hta2 : ((a' : Int) + 2).toNat = a' + 2 := by omega
              have hi2 : (a' : Int) + 2 < (a : Int) := by omega
              clear hno hc0 hfz hgl hai htb hokc
              go_loopw [14] (fun s14 wr => ∃ (j q : Nat), s14 = .int .i64 q ∧ Hid (q = a' + 3 + j) ∧ Hid (j ≤ slotsAt W p) ∧ Hid (formAt W p = 1 → j = 0) ∧ Hid (MxR wr F O T B g a c W.length q) ∧ Hid (Below B w9 wr)) (fun s14 _ => 9000 - (intOf s14).toNat)
              case atStart => exact ⟨0, a' + 3, by first | rfl | simp, rfl, Nat.zero_le _, fun _ => rfl, HX1.out, HBX1.out⟩
              case round =>
                clear HX1 HBX1
                rename_i wr
                obtain ⟨j, q, rfl, HQ, HJ, HJ0, HX, HBX⟩ := hrel
                have hgl := own_lt HX.out.own
                have hc2 : wr.cell? ⟨g, a' + 2, none⟩ = some (.int .i64 (wd W (p + 2))) := by rw [HX.out.read (by omega), if_pos (by have := HQ.out; omega), HQ2.out]
                have hqle : q ≤ a' + roomAt W p := by have := HQ.out; have := HJ.out; omega
                have hsum3 : (a' : Int) + 3 + ((slotsAt W p : Nat) : Int) = ((a' + roomAt W p : Nat) : Int) := by omega
                by_cases hgo : j < slotsAt W p ∧ formAt W p ≠ 1
                · obtain ⟨hjs, hf1⟩ := hgo
                  have hkni : (q : Int) < (a' : Int) + 3 + ((slotsAt W p : Nat) : Int) := by have := HQ.out; omega
                  have hqa : (q : Int) < (a : Int) := by have := HQ.out; omega
                  have hcq : wr.cell? ⟨g, q, none⟩ = some (.int .i64 (wd W (p + 3 + j))) := by
                    rw [HX.out.read (by omega), if_neg (by omega)]
                    have := HQ3.out (3 + j) (by omega)
                    rw [show a' + (3 + j) = q by have := HQ.out; omega, show p + (3 + j) = p + 3 + j by omega] at this
                    rw [this]
                  have hfz := HX.out.own.frozenAt q
                  have htb := own_lt HX.out.came
                  have hno := rnow17_any T W (f.map pl2) B W.length (wd W (p + 3 + j)) wr (fun i hi => own_wd HX.out.came hi) htb hTk hsT (hslot hf1 j hjs)
                  have HX2 : Hid (MxR (wr.setCell ⟨g, q, none⟩ (.int .i64 (turnP W (f.map pl2) (wd W (p + 3 + j))))) F O T B g a c W.length (q + 1)) := by
                    have := HX.out.put (show q < a by omega)
                    have e := HQ4.out j hjs
                    rw [if_neg hf1, ← HQ.out] at e
                    rw [e] at this; exact this
                  have HBX2 : Hid (Below B w9 (wr.setCell ⟨g, q, none⟩ (.int .i64 (turnP W (f.map pl2) (wd W (p + 3 + j)))))) := HBX.out.setCell (p := ⟨g, q, none⟩) hgB _
                  have hwq := wrap_id (x := (q : Int) + 1) (by omega) (by omega)
                  have hbn : (formAt W p != 1) = true := by simpa using hf1
                  have HQ' : Hid (q + 1 = a' + 3 + (j + 1)) := by have := HQ.out; exact (by omega : q + 1 = a' + 3 + (j + 1))
                  have HJ' : Hid (j + 1 ≤ slotsAt W p ∧ formAt W p ≠ 1) := ⟨hjs, hf1⟩
                  clear hjs hf1 hslot HX HBX
                  go_wp2_with (go_at_call 25; refine hno.mono ?_; rintro e w4 ⟨rfl, hw4⟩; rw [hw4]; clear hw4 w4)
                  go_roundw
                  case rel => exact ⟨j + 1, q + 1, by first | rfl | simp, HQ', HJ'.out.1, fun h => absurd h HJ'.out.2, HX2.out, HBX2.out⟩
                  case measure => simp [intOf]; omega
                · have HX2 : Hid (MxR wr F O T B g a c W.length (a' + roomAt W p)) := by
                    by_cases h1 : formAt W p = 1
                    · have hj0 := HJ0.out h1
                      have hq3 : q = a' + 3 := by have := HQ.out; omega
                      have hx := HX.out
                      rw [hq3] at hx
                      have := hx.skip (slotsAt W p) (by omega) (fun i hi => by
                        rw [HQ4.out i hi, if_pos h1]
                        have := HQ3.out (3 + i) (by omega)
                        rw [show a' + (3 + i) = a' + 3 + i by omega, show p + (3 + i) = p + 3 + i by omega] at this
                        exact this.symm)
                      rw [show a' + roomAt W p = a' + 3 + slotsAt W p by omega]; exact this
                    · have hjs : j = slotsAt W p := by have := HJ.out; have : ¬ j < slotsAt W p := fun h => hgo ⟨h, h1⟩; omega
                      have hx := HX.out
                      rw [HQ.out, hjs] at hx
                      rw [show a' + roomAt W p = a' + 3 + slotsAt W p by omega]; exact hx
                  by_cases hjs : j < slotsAt W p
                  · have hf1 : formAt W p = 1 := Classical.byContradiction fun h => hgo ⟨hjs, h⟩
                    have hkni : (q : Int) < (a' : Int) + 3 + ((slotsAt W p : Nat) : Int) := by have := HQ.out; omega
                    rw [hf1] at htm hwf
                    clear hgo hjs hf1 hslot HX
                    go_wp2_with fail
                    go_roundw
                    case rel => exact ⟨k' + 1, a' + roomAt W p, by first | rfl | simp [hsum3], HNX, hkl, hrm, HX2.out, HBX.out⟩
                    case measure => simp [intOf]; omega
                  · have hkni : ¬ (q : Int) < (a' : Int) + 3 + ((slotsAt W p : Nat) : Int) := by have := HQ.out; omega
                    clear hgo hjs hslot HX
                    go_wp2_with fail
                    go_roundw
                    case rel => exact ⟨k' + 1, a' + roomAt W p, by first | rfl | simp [hsum3], HNX, hkl, hrm, HX2.out, HBX.out⟩
                    case measure => simp [intOf]; omega
            · have hea : a' = a := by rw [HA.out]; exact HLT.out k' HKL.out hkl
              subst hea
              have hir3 : ¬ (a' : Int) < (a' : Int) := by omega
              have HOK : Hid (wr.ownsRow B 3 1 (sl g a' c) a' (vals F)) := by have := HX.out.own; rw [HAE.out k' HKL.out HA.out.symm] at this; exact this
              have HTO : Hid (wr.ownsRow 0 3 1 (sl B W.length W.length) W.length (vals T)) := HX.out.came
              have HBR : Hid (Below w.heap.size w wr) := HB9.out.trans (HBX.out.mono (by have := HBe.out; omega))
              have HCR : Hid (wr.cell? ⟨w.heap.size + 1, 0, none⟩ = some (.slice none 0 0) ∧ wr.frozen? ⟨w.heap.size + 1, 0, none⟩ = false ∧ w.heap.size + 1 < wr.heap.size ∧ B ≤ wr.heap.size) := by
                have hb := HBQ.out.trans HBX.out
                have hbe := HBe.out
                have hs := hb.size
                exact ⟨by rw [hb.cell (p := ⟨w.heap.size + 1, 0, none⟩) (by show w.heap.size + 1 < B; omega)]; exact HC2.out.1, by rw [hb.frozen (p := ⟨w.heap.size + 1, 0, none⟩) (by show w.heap.size + 1 < B; omega)]; exact HC2.out.2, by omega, by omega⟩
              clear HX HBX HA HKL hkl HLT HAE HW HB9 HBQ HC2
              go_wp2_with fail
              obtain ⟨wl, ewl⟩ : ∃ wl, wl = wr := ⟨_, rfl⟩
              subst ewl
              go_loopw [9, 15] (fun s9 s15 wr => ∃ (i : Nat), s15 = .int .i64 i ∧ i ≤ roots.length ∧ Hid (wr.ownsRow wl.heap.size 3 1 s9 i (vals ((roots.take i).map (turnP W (f.map pl2))))) ∧ Hid (Below wl.heap.size wl wr)) (fun _ s15 _ => roots.length - (intOf s15).toNat)
              case atStart => exact ⟨0, rfl, Nat.zero_le _, World.ownsRow_nil _ _ _ _, Below.refl _ _⟩
              case round =>
                rename_i wr
                obtain ⟨i, rfl, hir, HOL, HBL⟩ := hrel
                have hszl := HBL.out.size
                by_cases hlt : i < roots.length
                · obtain ⟨rb, ro, hrad, hrr⟩ := HO.out (by omega)
                  subst hrad
                  have hrw := (hrr.same HBR.out).same HBL.out
                  have hcr := hrw.cell i hlt
                  have hrbl := hrw.lt
                  have hoki := HK.out _ (wd_mem hlt)
                  have hii : (i : Int) < (roots.length : Int) := by omega
                  have htl := own_lt HTO.out
                  have hTq := ownsRow_below HTO.out HBL.out htl
                  have hno := rnow17_any T W (f.map pl2) B W.length (wd roots i) wr (fun j hj => own_wd hTq hj) (own_lt hTq) hTk hsT hoki
                  have HL : Hid ((roots.take (i + 1)).map (turnP W (f.map pl2)) = (roots.take i).map (turnP W (f.map pl2)) ++ [turnP W (f.map pl2) (wd roots i)]) := by rw [take_snoc hlt, List.map_append]; exact rfl
                  have hwi := wrap_id (x := (i : Int) + 1) (by omega) (by omega)
                  clear hrr hrw hTq htl
                  go_wp2_with (first | (go_at_call 25; refine hno.mono ?_; rintro e w4 ⟨rfl, hw4⟩; rw [hw4]; clear hw4 w4) | (at_builtin; go_must (refine wpList_append_own _ rfl (.tmp 163) (.tmp 165) 22 rfl wl.heap.size 3 i0 (.int .i64 0) 1 8 ty30 hi hz0 hz1 hz2 rfl (by decide) _ i (vals ((roots.take i).map (turnP W (f.map pl2)))) rfl (HOL.out.alloc _) ⟨wr.heap.size, 0, none⟩ 1 1 [.int .i64 (turnP W (f.map pl2) (wd roots i))] rfl rfl (cell_one_new _ _ _) (ints_oneCell .i64 [turnP W (f.map pl2) (wd roots i)]) (by unfold maxLen; omega) (by omega) (by simp; omega) ?_); intro v' w7 hown7 hgrow7 hnil7))
                  go_roundw
                  case rel => exact ⟨i + 1, by first | rfl | simp, by omega, by rw [HL.out]; simpa [vals, Hid] using hown7, (HBL.out.alloc (by omega) _).grown hgrow7 (by simp; omega) (fun k hk => (HOL.out.lt k hk).1)⟩
                  case measure => simp [intOf]; omega
                · have he : i = roots.length := by omega
                  subst he
                  have hownl := HOL.out
                  rw [List.take_length] at hownl
                  obtain ⟨d1, d2, d3, d4⟩ := HCR.out
                  have d5 : wr.cell? ⟨w.heap.size + 1, 0, none⟩ = some (.slice none 0 0) := (HBL.out.cell (p := ⟨w.heap.size + 1, 0, none⟩) d3).trans d1
                  have d6 : wr.frozen? ⟨w.heap.size + 1, 0, none⟩ = false := (HBL.out.frozen (p := ⟨w.heap.size + 1, 0, none⟩) d3).trans d2
                  have d7 : w.heap.size + 1 < wr.heap.size := by omega
                  have hnlt : ¬ ((roots.length : Int) < (roots.length : Int)) := by omega
                  have hgg : w.heap.size + 1 < g := by have := HBe.out; omega
                  have hownK : wr.ownsRow 0 3 1 (sl g a' c) a' (vals F) := own_mono (Nat.zero_le _) (own_same HOK.out fun g' hg' => HBL.out.block g' (HOK.out.lt g' hg').2)
                  have hlK : F.length = a' := HFN.out
                  have HBE : Hid (Below w.heap.size w wr) := HBR.out.trans (HBL.out.mono HBR.out.size)
                  clear d1 d2 hlt HOL
                  go_wp2_with fail
                  refine bodyPost_ret (v := .tuple #[.agg #[sl g a' c], u9]) (by simp [results, Try.results9, go_sem, d5]) rfl ⟨⟨f, HBF.out, g, c, u9, by rw [HFE.out, hlK], ?_, ?_⟩, ?_⟩
                  · rw [HFE.out, hlK]; exact own_set' hownK (by dsimp only; omega) _
                  · rw [List.length_map]
                    have h3 := own_mono (show w.heap.size ≤ wl.heap.size by omega) hownl
                    exact own_same h3 fun g' hg' => by
                      have := (hownl.lt g' hg').1
                      exact Below.heap_setCell _ _ _ _ (by dsimp only; omega)
                  · exact HBE.out.setCell (by dsimp only; omega) _
end Go.Proofs.Ytfmapgbkajlfkaa
