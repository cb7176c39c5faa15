/- heap.View.Relaid: some things of a view, laid one behind the other, as a function makes each of them. -/
import Derived.Test.YtpapaadclkdbkaaTurned
import Derived.Test.YtpapaadclkdbkaaOwnKit
namespace Go.Proofs.Ytpapaadclkdbkaa
open Go.RowKit

/-- What has been laid so far. -/
def laidT (t : Int → Int) (W : List Int) (ps : List Nat) (i : Nat) : List Int := wd W 0 :: wd W 1 :: (ps.take i).flatMap (thingW t W)
theorem take_snocM {ps : List Nat} {i : Nat} (h : i < ps.length) : ps.take (i + 1) = ps.take i ++ [ps.getD i 0] := by
  rw [List.take_add_one, List.getD_eq_getElem?_getD, List.getElem?_eq_getElem h]; rfl
theorem laidT_next {t : Int → Int} {W : List Int} {ps : List Nat} {i : Nat} (h : i < ps.length) : laidT t W ps (i + 1) = laidT t W ps i ++ thingW t W (ps.getD i 0) := by
  unfold laidT
  rw [take_snocM h, List.flatMap_append]; simp
theorem laidT_end (t : Int → Int) (W : List Int) (ps : List Nat) : laidT t W ps ps.length = wd W 0 :: wd W 1 :: ps.flatMap (thingW t W) := by unfold laidT; rw [List.take_length]
theorem shape_of {t : Int → Int} {W : List Int} {p : Nat} (hF : Fine W) (h : p ∈ places W 2) : t (wd W p) :: wd W (p + 1) :: (4 * ((slotsW t W p).length : Int) + formAt W p) :: slotsW t W p = thingW t W p := by
  unfold thingW
  rw [slotsW_length (hF.room p h), ← hF.shape p h]
theorem own_base2 {w : World} {B b n cap : Nat} {xs : List Value} (h : w.ownsRow 0 3 1 (sl b n cap) n xs) (hB : B ≤ b) : w.ownsRow B 3 1 (sl b n cap) n xs := own_mono' h hB
/-- A heap, its words in memory of its own. -/
def HeapAns (K : List Int) (B : Nat) (e : Ending) (w : World) : Prop :=
  ∃ g c, e = .returned (.agg #[sl g K.length c]) ∧ B ≤ g ∧ w.ownsRow 0 3 1 (sl g K.length c) K.length (vals K)
/-- What lies in two boxes, of two cells and of one. -/
theorem boxes21 {w w' : World} {x y z : Value} {t t' : TypeId} (hb : Below ((w.alloc (.cells #[x, y] t)).alloc (.cells #[z] t')).heap.size ((w.alloc (.cells #[x, y] t)).alloc (.cells #[z] t')) w') :
    (w'.cell? ⟨w.heap.size, 0, none⟩ = some x ∧ w'.cell? ⟨w.heap.size, 1, none⟩ = some y ∧ w'.cell? ⟨w.heap.size + 1, 0, none⟩ = some z) ∧ w'.frozen? ⟨w.heap.size + 1, 0, none⟩ = false ∧ w.heap.size + 1 < w'.heap.size := by
  have hs := hb.size
  refine ⟨⟨?_, ?_, ?_⟩, ?_, by simp at hs; omega⟩
  · rw [hb.cell (p := ⟨w.heap.size, 0, none⟩) (by simp; omega), cell_past _ (by simp), cell_at2 rfl]; rfl
  · rw [hb.cell (p := ⟨w.heap.size, 1, none⟩) (by simp; omega), cell_past _ (by simp), cell_at2 rfl]; rfl
  · rw [hb.cell (p := ⟨w.heap.size + 1, 0, none⟩) (by simp), cell_at2 (by simp)]; rfl
  · rw [hb.frozen (p := ⟨w.heap.size + 1, 0, none⟩) (by simp), frozen_at2 (by simp)]

set_option maxHeartbeats 8000000 in
theorem relaidB_any (K : Nat) (bs cs : Array Value) (t : Int → Int) (I : World → Prop) (T : TurnsB K bs cs t I) (W : List Int) (ps : List Nat) (b cap bm : Nat) (sad : Option Addr) (sc : Nat) (w : World) (hI : I w) (hv : IsView w b cap bm W) (hst : RootsAt sad (refs ps) w) (hF : Fine W) (h2 : 2 ≤ W.length) (hpp : ∀ p ∈ ps, p ∈ places W 2) (hpl' : ps.length ≤ 2000) (hsh : ∀ i, (laidT t W ps i).length ≤ 2000) :
    Calls Try.prog 37 #[viewV b W.length cap bm, .slice sad (refs ps).length sc, .func (.func K) bs cs] w fun e w' => HeapAns (laidT t W ps ps.length) w.heap.size e w' ∧ Below w.heap.size w w' := by
  obtain ⟨i0, hi, hz0, hz1, hz2⟩ := info_parts info3
  have hu := hF.fit
  have hl := hF.few
  have hent := T.enters
  have HS : Hid (RootsAt sad (refs ps) w) := hst
  clear hst
  go_enter Try.func37, Try.ntmps37
  go_wp2_with (go_at_call 66; refine (vfront_any W b cap bm _ ((hv.alloc _).alloc _) h2 hl).mono ?_; rintro e w4 ⟨⟨g4, k4, rfl, hg4, hown4⟩, hb4⟩)
  obtain ⟨w3, hw3⟩ : ∃ w3, w3 = ((w.alloc (.cells #[sl b W.length cap, .map (some bm)] 54)).alloc (.cells #[.slice none 0 0] 24)) := ⟨_, rfl⟩
  have hb03 : Below w.heap.size w w3 := by rw [hw3]; exact ((Below.refl _ _).alloc (Nat.le_refl _) _).alloc (by simp) _
  obtain ⟨⟨c0, c1, c2⟩, f2, hz3⟩ : (w3.cell? ⟨w.heap.size, 0, none⟩ = some (sl b W.length cap) ∧ w3.cell? ⟨w.heap.size, 1, none⟩ = some (.map (some bm)) ∧ w3.cell? ⟨w.heap.size + 1, 0, none⟩ = some (.slice none 0 0)) ∧ w3.frozen? ⟨w.heap.size + 1, 0, none⟩ = false ∧ w.heap.size + 1 < w3.heap.size := by rw [hw3]; exact boxes21 (Below.refl _ _)
  rw [← hw3] at hb4 hg4
  clear hw3
  have hv3 := hv.same hb03
  have HS3 : Hid (RootsAt sad (refs ps) w3) := HS.out.below hb03
  clear HS hv
  go_loopw [7, 14] (fun s7 s14 wr => ∃ (i g c n : Nat), s14 = .int .i64 i ∧ i ≤ ps.length ∧ s7 = sl g n c ∧ Hid (n = (laidT t W ps i).length) ∧ wr.ownsRow w3.heap.size 3 1 (sl g n c) n (vals (laidT t W ps i)) ∧ Below w3.heap.size w3 wr) (fun _ s14 _ => ps.length - (intOf s14).toNat)
  case atStart => exact ⟨0, g4, k4, 2, rfl, Nat.zero_le _, rfl, rfl, own_base2 hown4 hg4, hb4⟩
  case round =>
    clear hown4 hb4
    obtain ⟨i, g, c, n, rfl, hi', rfl, HN, hown, hB⟩ := hrel
    have hvr := hv3.same hB
    have vd0 := through hB c0 (by dsimp only; omega)
    have vd1 := through hB c1 (by dsimp only; omega)
    have vd2 := through hB c2 (by dsimp only; omega)
    have hIr := T.lasts _ _ hI (hb03.trans (hB.mono hb03.size))
    have hnl : n ≤ 2000 := by rw [HN.out]; exact hsh i
    have hg := hown.lt g rfl
    by_cases hlt : i < ps.length
    · obtain ⟨rb, ro, hsad, hrr⟩ := HS3.out (by rw [refs_length]; omega)
      subst hsad
      have hcr := (hrr.same hB).cell i (by rw [refs_length]; exact hlt)
      rw [refs_at hlt] at hcr
      have hmem := getD_memN hlt
      have Hnext : Hid (laidT t W ps (i + 1) = laidT t W ps i ++ thingW t W (ps.getD i 0)) := laidT_next hlt
      have hnl' : (laidT t W ps (i + 1)).length ≤ 2000 := hsh (i + 1)
      generalize hq : ps.getD i 0 = q at *
      clear hq
      have hpl := hpp q hmem
      have ho := ref_thing hl hpl
      have hroom := hF.room q hpl
      have hform := hF.form q hpl
      have hshp := shape_of (t := t) hF hpl
      have hsl := slotsW_length (t := t) hroom
      have hs60 : slotsAt W q ≤ 60 := by have := fits_out (place_fit hu hpl).2.2.1; unfold slotsAt; omega
      have HL : Hid (n + (thingW t W q).length = (laidT t W ps (i + 1)).length) := by rw [Hnext.out, List.length_append, HN.out]; exact rfl
      have htl : n + (thingW t W q).length ≤ 2000 := by rw [HL.out]; exact hnl'
      have hii : (i : Int) < ((refs ps).length : Int) := by rw [refs_length]; omega
      have hwd := hvr.wf
      clear hnl'
      go_wp2_with (first | (go_at_call 32; refine (vlook_any W b cap bm q _ hvr hu hl ho hpl).mono ?_; rintro e w5 ⟨⟨v5, rfl, hs5⟩, hb5⟩) | (go_at_call 67; refine (turned_any _ _ _ t _ T W q _ v5 _ (T.lasts _ _ hIr hb5) hs5 hwd hroom hl).mono ?_; rintro e w6 ⟨⟨v6, rfl, hs6⟩, hb6⟩) | (go_at_call 52; refine (laid_any (t (wd W q)) (wd W (q + 1)) (formAt W q) (slotsW t W q) _ v6 _ hs6 (by omega) (by omega)).mono ?_; rw [hshp]; rintro e w7 ⟨⟨g7, k7, rfl, hg7, hown7⟩, hb7⟩; have hb57 : Below wr.heap.size wr w7 := (hb5.trans (hb6.mono hb5.size)).trans (hb7.mono (hb5.trans (hb6.mono hb5.size)).size); have hB7 := hB.trans (hb57.mono hB.size); have hownr := own_same hown (fun g' hg' => hb57.block g' (hown.lt g' hg').2); have hnews := news_at hown7; have hz7 := hB7.size) | (at_builtin; refine wpList_append_own _ rfl (.tmp 18) (.tmp 24) 22 rfl w3.heap.size 3 i0 (.int .i64 0) 1 8 ty30 hi hz0 hz1 hz2 rfl (by decide) (sl g n c) n (vals (laidT t W ps i)) rfl hownr ⟨g7, 0, none⟩ (thingW t W q).length k7 (vals (thingW t W q)) rfl (by simp) hnews (ints_oneCell .i64 _) (by unfold maxLen; omega) (by omega) (by omega) ?_; intro v8 w8 hown8 hgrow8 hnil8; obtain ⟨g8, c8, hv8, hg8, hown9⟩ := own_shape hown8 (fun e => by have := (hnil8.1 e).1; cases this); subst hv8))
      go_roundw
      case rel => exact ⟨i + 1, g8, c8, n + (thingW t W q).length, by first | rfl | simp, by omega, rfl, HL, by rw [Hnext.out]; simpa [vals] using hown8, hB7.grown hgrow8 hz7 (fun k hk => by simp [Value.ownBlock] at hk; omega)⟩
      case measure => simp [intOf]; omega
    · have he : i = ps.length := by omega
      subst he
      have hnlt : ¬ ((ps.length : Int) < ((refs ps).length : Int)) := by rw [refs_length]; omega
      have hfd := throughF hB f2 (by dsimp only; omega)
      have hzr := hB.size
      have hB0 := hb03.trans (hB.mono hb03.size)
      have hz1r : w.heap.size + 1 < wr.heap.size := by omega
      go_wp2_with fail
      refine bodyPost_ret (v := .agg #[sl g n c]) (by simp [results, Try.results37, go_sem, vd2]) rfl ⟨⟨g, c, by rw [HN.out], by omega, ?_⟩, ?_⟩
      · have hown0 := own_mono (Nat.zero_le _) hown
        rw [← HN.out]
        repeat (first | refine own_set' ?_ (by dsimp only; omega) _ | exact hown0)
      · repeat (first | refine Below.setCell ?_ (by dsimp only; omega) _ | exact hB0)
theorem relaid_any (K : Nat) (cs : Array Value) (t : Int → Int) (I : World → Prop) (T : Turns K cs t I) (W : List Int) (ps : List Nat) (b cap bm : Nat) (sad : Option Addr) (sc : Nat) (w : World) (hI : I w) (hv : IsView w b cap bm W) (hst : RootsAt sad (refs ps) w) (hF : Fine W) (h2 : 2 ≤ W.length) (hpp : ∀ p ∈ ps, p ∈ places W 2) (hpl' : ps.length ≤ 2000) (hsh : ∀ i, (laidT t W ps i).length ≤ 2000) :
    Calls Try.prog 37 #[viewV b W.length cap bm, .slice sad (refs ps).length sc, .func (.func K) #[] cs] w fun e w' => HeapAns (laidT t W ps ps.length) w.heap.size e w' ∧ Below w.heap.size w w' := relaidB_any K #[] cs t I T W ps b cap bm sad sc w hI hv hst hF h2 hpp hpl' hsh

/-! Where things lie that are laid one behind the other, and what becomes of their references. -/
/-- The references of those that are laid one behind the other, as they are then. -/
def refAt (W : List Int) : Nat → List Nat → Int → Option Int
  | _, [], _ => none
  | top, q :: r, o => if o = 2 * (q : Int) then some (2 * (top : Int)) else refAt W (top + roomAt W q) r o
theorem refAt_snoc (W : List Int) : ∀ (ps : List Nat) (top p : Nat), p ∉ ps → refAt W top (ps ++ [p]) = fun o => if o = 2 * (p : Int) then some (2 * ((top + roomSum W ps : Nat) : Int)) else refAt W top ps o
  | [], top, p, _ => by funext o; simp only [List.nil_append, refAt, roomSum, Nat.add_zero]
  | q :: r, top, p, h => by
    funext o
    have hq : p ≠ q := fun e => h (by rw [e]; exact List.mem_cons_self ..)
    rw [List.cons_append, refAt, refAt_snoc W r (top + roomAt W q) p (fun hm => h (List.mem_cons_of_mem _ hm)), refAt, roomSum]
    by_cases e : o = 2 * (q : Int)
    · rw [if_pos e, if_pos e, if_neg (by omega)]
    · rw [if_neg e, if_neg e, Nat.add_assoc]
theorem refAt_in {W : List Int} : ∀ {ps : List Nat} {top p : Nat}, p ∈ ps → refAt W top ps (2 * (p : Int)) = some (2 * (newAt W top ps p : Int))
  | q :: r, top, p, h => by
    rw [refAt, newAt]
    by_cases e : q = p
    · rw [if_pos (by omega), if_pos e]
    · rw [if_neg (by omega), if_neg e]
      rcases List.mem_cons.1 h with h | h
      · exact absurd h.symm e
      · exact refAt_in h
theorem refAt_out {W : List Int} : ∀ {ps : List Nat} {top : Nat} {o : Int}, (∀ p ∈ ps, o ≠ 2 * (p : Int)) → refAt W top ps o = none
  | [], _, _, _ => rfl
  | q :: r, top, o, h => by rw [refAt, if_neg (h q (List.mem_cons_self ..))]; exact refAt_out fun p hp => h p (List.mem_cons_of_mem _ hp)
/-- What turning says is what becomes of a reference. -/
theorem turn_refAt {W : List Int} {ps : List Nat} (hp : ∀ p ∈ ps, p ∈ places W 2) (hl : W.length ≤ 2000) (o : Int) :
    turnP W ps o = match refAt W 2 ps o with | some x => x | none => if thingB W o = true then 0 else o := by
  by_cases h : ∃ p ∈ ps, o = 2 * (p : Int)
  · obtain ⟨p, hm, rfl⟩ := h
    rw [refAt_in hm]
    unfold turnP
    rw [if_pos (ref_thing hl (hp p hm)), pl2_two]
  · have hn : ∀ p ∈ ps, o ≠ 2 * (p : Int) := fun p hp e => h ⟨p, hp, e⟩
    rw [refAt_out hn]
    unfold turnP
    by_cases ht : thingB W o = true
    · obtain ⟨p, e, _, _, hq⟩ := thing_ref ht
      have hq' : pl2 o = p := hq
      rw [if_pos ht, if_pos ht, hq', newAt_none (fun hm => hn p hm e)]; rfl
    · rw [if_neg ht, if_neg ht]
theorem roomSum_le {W : List Int} {ps : List Nat} (hn : ps.Nodup) (hp : ∀ p ∈ ps, p ∈ places W 2) (h2 : 2 ≤ W.length) (hu : unfit W 2 = none) : 2 + roomSum W ps ≤ W.length := by
  have h1 := roomSum_sub W ps (places W 2) hn hp
  have h2 := places_sum _ 2 (Nat.le_refl _) h2 hu
  omega

theorem refs_wd {ps : List Nat} {i : Nat} (h : i < ps.length) : wd (refs ps) i = 2 * ((ps.getD i 0 : Nat) : Int) := by
  unfold wd refs
  rw [List.getD_eq_getElem?_getD, List.getElem?_map, List.getElem?_eq_getElem h, List.getD_eq_getElem?_getD, List.getElem?_eq_getElem h]; rfl
theorem getD_mem' {ps : List Nat} {i : Nat} (h : i < ps.length) : ps.getD i 0 ∈ ps := by
  rw [List.getD_eq_getElem?_getD, List.getElem?_eq_getElem h]; exact List.getElem_mem h
theorem take_snocN {ps : List Nat} {i : Nat} (h : i < ps.length) : ps.take (i + 1) = ps.take i ++ [ps.getD i 0] := by
  rw [List.take_add_one, List.getElem?_eq_getElem h, List.getD_eq_getElem?_getD, List.getElem?_eq_getElem h]; rfl
theorem take_not {ps : List Nat} {i : Nat} (hn : ps.Nodup) (h : i < ps.length) : ps.getD i 0 ∉ ps.take i := by
  have := hn.sublist (List.take_sublist (i + 1) ps)
  rw [take_snocN h, List.nodup_append] at this
  exact fun hm => this.2.2 _ hm _ (List.mem_singleton_self _) rfl

theorem laid_length {W R : List Int} {ps : List Nat} (M : Moves W R ps) (i : Nat) : (laidT (turnP W ps) W ps i).length ≤ W.length := by
  have h1 := roomSum_le (M.once.sublist (List.take_sublist i _)) (fun p hm => M.place (List.mem_of_mem_take hm)) M.two M.fine.fit
  unfold laidT
  simp only [List.length_cons, flat_length _ fun p hm => M.room (List.mem_of_mem_take hm)]; omega

end Go.Proofs.Ytpapaadclkdbkaa
