/- become.note, becoming, turning: who becomes whom, as a map and as a function of it. -/
import Derived.Test.YtgggmdanpdggpacIntMap
import Derived.Test.YtgggmdanpdggpacLay
import Derived.Test.YtgggmdanpdggpacSeeRoots
import Derived.Test.YtgggmdanpdggpacBecomePlain
import Derived.Deep.RegionHeld3
namespace Go.Proofs.Ytgggmdanpdggpac
open Go.RowKit
open Go.Maps (Keyed keyOf_int_mk)

theorem IntMap.drew {w : World} {bm top : Nat} {f : Int → Option Int} (h : IntMap w bm top f) : IntMap w.drew bm top f := h.below (Below.refl _ _).drew h.lt
theorem IntMap.set {w : World} {bm top : Nat} {f : Int → Option Int} {a : Addr} (h : IntMap w bm top f) (hb : bm ≠ a.block) (x : Value) : IntMap (w.setCell a x) bm top f := by
  obtain ⟨n, D, ho, hr⟩ := h
  exact ⟨n, D, ho.setCell hb x, hr⟩
theorem IntMap.up {w : World} {bm top top' : Nat} {f : Int → Option Int} (h : IntMap w bm top f) (ht : top ≤ top') : IntMap w bm top' f := by
  obtain ⟨n, D, ho, hn, r⟩ := h; exact ⟨n, D, ho, by omega, r⟩

set_option maxHeartbeats 1000000 in
theorem note_again (mm top : Nat) (f : Int → Option Int) (o x y : Int) (w : World) (h : IntMap w mm top f) (ho : (Lit.int .i64 o).wf = true) (hf : f o = some y) :
    Calls Try.prog 19 #[.map (some mm), .int .i64 o, .int .i64 x] w fun e w' => e = .returned (.bool false) ∧ w' = w := by
  obtain ⟨n, D, hD, hDn, hDh, hDa⟩ := h
  have hho := hDh o
  rw [hf] at hho
  simp only [Option.isSome_some] at hho
  clear hDh hDa hf
  go_enter Try.func19, Try.ntmps19
  go_wp2_with (at_lookup; refine wpList_lookup_own_ok_int _ rfl _ _ 34 rfl 3 3 .i64 key3 ty59 ty3 (zero3 _) mm n D rfl hD _ _ rfl (keyOf_int_mk ty3 ho) ?_; intro c hat hwc; clear hat hwc)
  go_ret
  exact ⟨rfl, rfl⟩

/-- One more becomes another. -/
def NoteAns (mm top : Nat) (f : Int → Option Int) (o x : Int) (w : World) (e : Ending) (w' : World) : Prop :=
  e = .returned (.bool true) ∧ IntMap w' mm (top + 1) (fun k => if k = o then some x else f k) ∧ Below mm w w'
set_option maxHeartbeats 1000000 in
theorem note_new (mm top : Nat) (f : Int → Option Int) (o x : Int) (w : World) (h : IntMap w mm top f) (ht : top ≤ 20000) (ho : (Lit.int .i64 o).wf = true) (hx : (Lit.int .i64 x).wf = true) (hf : f o = none) :
    Calls Try.prog 19 #[.map (some mm), .int .i64 o, .int .i64 x] w (NoteAns mm top f o x w) := by
  unfold NoteAns
  have hlt := h.lt
  obtain ⟨n, D, hD, hDn, hDh, hDa⟩ := h
  have hho := hDh o
  rw [hf] at hho
  simp only [Option.isSome_none] at hho
  go_enter Try.func19, Try.ntmps19
  go_wp2_with (first | (at_lookup; refine wpList_lookup_own_ok_int _ rfl _ _ 34 rfl 3 3 .i64 key3 ty59 ty3 (zero3 _) mm n D rfl hD _ _ rfl (keyOf_int_mk ty3 ho) ?_; intro c hat hwc; clear hat hwc) | (at_mapUpdate; refine wpList_mapUpdate_own _ rfl _ _ _ 34 rfl 3 3 key3 ty59 (plainElem Try.prog 3) mm n D rfl hD (by unfold maxLen; omega) _ _ _ rfl rfl (keyOf_int_mk ty3 ho) _ [] (plainElem_int ty3 hx) ?_; intro w3 hm3 hg3))
  go_ret
  exact ⟨rfl, IntMap.put hD hDn hDh hDa hm3, (Below.refl _ _).grown hg3 (Nat.le_of_lt hlt) (fun k hk => by simp at hk; omega)⟩

/-- What becoming answers. -/
def BecAns (F T : List Int) (both : Bool) (B : Nat) (e : Ending) (w : World) : Prop :=
  (∃ i, i < F.length ∧ twAt both F T i = true ∧ (∀ j, j < i → twAt both F T j = false) ∧ e = .returned (.tuple #[.map none, .agg #[.int .i64 5, .int .i64 (i : Nat)]])) ∨
  ((∀ j, j < F.length → twAt both F T j = false) ∧ ∃ mm, e = .returned (.tuple #[.map (some mm), .agg #[.int .i64 0, .int .i64 0]]) ∧ B ≤ mm ∧ IntMap w mm (2 * F.length) (becAt both (F.zip T)))

theorem bec_put1 {L : List (Int × Int)} {a b : Int} (h : becAt false L a = none) : (fun k => if k = a then some b else becAt false L k) = becAt false (L ++ [(a, b)]) := by
  funext k
  rw [bec_snoc]
  by_cases e : k = a
  · subst e; rw [if_pos rfl, if_pos rfl, h]; rfl
  · rw [if_neg e, if_neg e, if_neg (fun h => by cases h.1)]
    cases becAt false L k <;> rfl
theorem bec_put2 {L : List (Int × Int)} {a b : Int} (h : becAt true L a = none) (h2 : (if b = a then some b else becAt true L b) = none) : (fun k => if k = b then some a else if k = a then some b else becAt true L k) = becAt true (L ++ [(a, b)]) := by
  have hne : b ≠ a := fun e => by rw [if_pos e] at h2; cases h2
  rw [if_neg hne] at h2
  funext k
  rw [bec_snoc]
  by_cases e : k = b
  · subst e; rw [if_pos rfl, if_neg hne, if_pos ⟨rfl, rfl⟩, h2]; rfl
  · rw [if_neg e]
    by_cases e2 : k = a
    · subst e2; rw [if_pos rfl, if_pos rfl, h]; rfl
    · rw [if_neg e2, if_neg e2, if_neg (fun h => e h.2)]
      cases becAt true L k <;> rfl
theorem bec_zero (both : Bool) (F T : List Int) : becAt both ((F.zip T).take 0) = fun _ => none := by funext o; rfl
theorem tw_yes {both : Bool} {F T : List Int} {i : Nat} {y : Int} (h : becAt both ((F.zip T).take i) (wd F i) = some y) : twAt both F T i = true := by
  cases ht : twAt both F T i with
  | true => rfl
  | false => have := (twice_no.1 ht).2.1; rw [h] at this; cases this
theorem tw_yes2 {F T : List Int} {i : Nat} {y : Int} (h : (if wd T i = wd F i then some (wd T i) else becAt true ((F.zip T).take i) (wd T i)) = some y) : twAt true F T i = true := by
  cases ht : twAt true F T i with
  | true => rfl
  | false =>
    have h1 := twice_no.1 ht
    rw [if_neg (fun e => h1.1 rfl e.symm), h1.2.2 rfl] at h; cases h
theorem tw_no1 {F T : List Int} {i : Nat} (h : becAt false ((F.zip T).take i) (wd F i) = none) : twAt false F T i = false :=
  twice_no.2 ⟨fun h => (by cases h), h, fun h => (by cases h)⟩
theorem tw_no2 {F T : List Int} {i : Nat} (h : becAt true ((F.zip T).take i) (wd F i) = none) (h2 : (if wd T i = wd F i then some (wd T i) else becAt true ((F.zip T).take i) (wd T i)) = none) : twAt true F T i = false := by
  have hne : wd T i ≠ wd F i := fun e => by rw [if_pos e] at h2; cases h2
  rw [if_neg hne] at h2
  exact twice_no.2 ⟨fun _ e => hne e.symm, h, fun _ => h2⟩

theorem tw_upto {both : Bool} {F T : List Int} {i : Nat} (h : ∀ j, j < i → twAt both F T j = false) (hi : twAt both F T i = false) : ∀ j, j < i + 1 → twAt both F T j = false := fun j hj => by
  by_cases e : j = i
  · rw [e]; exact hi
  · exact h j (by omega)

set_option maxHeartbeats 4000000 in
theorem becoming_any (F T : List Int) (fad tad : Option Addr) (fc tc : Nat) (both : Bool) (w : World) (hF : RootsAt fad F w) (hT : RootsAt tad T w) (hl : F.length = T.length) (hn : F.length ≤ 5000) :
    Calls Try.prog 11 #[.slice fad F.length fc, .slice tad T.length tc, .bool both] w fun e w' => BecAns F T both w.heap.size e w' ∧ Below w.heap.size w w' := by
  have hmm := @run_makeMap Try.prog
  have HF : Hid (RootsAt fad F w) := hF
  have HT : Hid (RootsAt tad T w) := hT
  have HL : Hid (F.length = T.length) := hl
  rw [← hl]
  clear hF hT hl
  go_enter Try.func11, Try.ntmps11
  have hi0 : IntMap ((w.alloc (.cells #[.int .i64 0, .int .i64 0] 27)).alloc (.map #[] 0)) (w.heap.size + 1) 0 (becAt both ((F.zip T).take 0)) := by
    rw [bec_zero]
    simpa using IntMap.new (w.alloc (.cells #[.int .i64 0, .int .i64 0] 27))
  have hc0 : ((w.alloc (.cells #[.int .i64 0, .int .i64 0] 27)).alloc (.map #[] 0)).cell? ⟨w.heap.size, 0, none⟩ = some (.int .i64 0) := by rw [cell_past _ (by simp), cell_at2 rfl]; rfl
  have hc1 : ((w.alloc (.cells #[.int .i64 0, .int .i64 0] 27)).alloc (.map #[] 0)).cell? ⟨w.heap.size, 1, none⟩ = some (.int .i64 0) := by rw [cell_past _ (by simp), cell_at2 rfl]; rfl
  have hf0 : ((w.alloc (.cells #[.int .i64 0, .int .i64 0] 27)).alloc (.map #[] 0)).frozen? ⟨w.heap.size, 0, none⟩ = false := by rw [frozen_past _ (by simp), frozen_at2 rfl]
  have hf1 : ((w.alloc (.cells #[.int .i64 0, .int .i64 0] 27)).alloc (.map #[] 0)).frozen? ⟨w.heap.size, 1, none⟩ = false := by rw [frozen_past _ (by simp), frozen_at2 rfl]
  have H0 : Hid (IntMap ((w.alloc (.cells #[.int .i64 0, .int .i64 0] 27)).alloc (.map #[] 0)) (w.heap.size + 1) 0 (becAt both ((F.zip T).take 0)) ∧ (((w.alloc (.cells #[.int .i64 0, .int .i64 0] 27)).alloc (.map #[] 0)).cell? ⟨w.heap.size, 0, none⟩ = some (.int .i64 0) ∧ ((w.alloc (.cells #[.int .i64 0, .int .i64 0] 27)).alloc (.map #[] 0)).cell? ⟨w.heap.size, 1, none⟩ = some (.int .i64 0) ∧ ((w.alloc (.cells #[.int .i64 0, .int .i64 0] 27)).alloc (.map #[] 0)).frozen? ⟨w.heap.size, 0, none⟩ = false ∧ ((w.alloc (.cells #[.int .i64 0, .int .i64 0] 27)).alloc (.map #[] 0)).frozen? ⟨w.heap.size, 1, none⟩ = false) ∧ Below w.heap.size w ((w.alloc (.cells #[.int .i64 0, .int .i64 0] 27)).alloc (.map #[] 0))) := ⟨hi0, ⟨hc0, hc1, hf0, hf1⟩, ((Below.refl _ _).alloc (Nat.le_refl _) _).alloc (by simp) _⟩
  clear hi0 hc0 hc1 hf0 hf1
  go_wp2_with fail
  go_loopw [14] (fun s14 wr => ∃ (i : Nat), s14 = .int .i64 i ∧ i ≤ F.length ∧ Hid (∀ j, j < i → twAt both F T j = false) ∧ IntMap wr (w.heap.size + 1) (2 * i) (becAt both ((F.zip T).take i)) ∧ (wr.cell? ⟨w.heap.size, 0, none⟩ = some (.int .i64 0) ∧ wr.cell? ⟨w.heap.size, 1, none⟩ = some (.int .i64 0) ∧ wr.frozen? ⟨w.heap.size, 0, none⟩ = false ∧ wr.frozen? ⟨w.heap.size, 1, none⟩ = false) ∧ Below w.heap.size w wr) (fun s14 _ => F.length - (intOf s14).toNat)
  case atStart => exact ⟨0, rfl, Nat.zero_le _, fun j hj => by omega, H0.out.1, H0.out.2.1, H0.out.2.2⟩
  case round =>
    clear H0
    obtain ⟨i, rfl, hi, HN, hm, ⟨c0, c1, f0, f1⟩, hB⟩ := hrel
    have hlr := hm.lt
    by_cases hlt : i < F.length
    · obtain ⟨fb, fq, hfad, hrF⟩ := HF.out (by omega)
      obtain ⟨tb, tq, htad, hrT⟩ := HT.out (by rw [← HL.out]; omega)
      subst hfad htad
      have hcF := (hrF.same hB).cell i hlt
      have hcT := (hrT.same hB).cell i (by rw [← HL.out]; exact hlt)
      have hlF := hrF.lt
      have hlT := hrT.lt
      have hwF := hrF.wf i
      have hwT := hrT.wf i
      have hii : (i : Int) < (F.length : Int) := by omega
      have HZ : Hid ((F.zip T).take (i + 1) = (F.zip T).take i ++ [(wd F i, wd T i)]) := zip_snoc HL.out hlt
      clear hrF hrT
      cases both with
      | false =>
        cases ha : becAt false ((F.zip T).take i) (wd F i) with
        | some y =>
          have H : twAt false F T i = true := tw_yes ha
          go_wp2_with fail
          go_region_held3 (fun w' => w'.cell? ⟨fb, fq + i, none⟩ = some (.int .i64 (wd F i)) ∧ w'.cell? ⟨tb, tq + i, none⟩ = some (.int .i64 (wd T i))) (go_keep) (first | (go_at_call 19; refine (note_again (w.heap.size + 1) _ _ (wd F i) (wd T i) y _ hm.drew hwF ha).mono ?_; rintro e w5 ⟨rfl, rfl⟩))
          go_wp2_with fail
          refine bodyPost_ret (v := .tuple #[.map none, .agg #[.int .i64 5, .int .i64 (i : Nat)]]) (by simp [results, Try.results11, go_sem, c0, c1]) rfl ⟨Or.inl ⟨i, hlt, H, HN.out, rfl⟩, ?_⟩
          repeat (first | refine Below.drew ?_ | refine Below.setCell ?_ (by dsimp only; omega) _ | exact hB)
        | none =>
          have H : Hid (∀ j, j < i + 1 → twAt false F T j = false) := tw_upto HN.out (tw_no1 ha)
          have HP : Hid ((fun k => if k = wd F i then some (wd T i) else becAt false ((F.zip T).take i) k) = becAt false ((F.zip T).take (i + 1))) := by rw [HZ.out]; exact bec_put1 ha
          go_wp2_with fail
          go_region_held3 (fun w' => w'.cell? ⟨fb, fq + i, none⟩ = some (.int .i64 (wd F i)) ∧ w'.cell? ⟨tb, tq + i, none⟩ = some (.int .i64 (wd T i))) (go_keep) (first | (go_at_call 19; refine (note_new (w.heap.size + 1) (2 * i) _ (wd F i) (wd T i) _ hm.drew (by omega) hwF hwT ha).mono ?_; rintro e w5 ⟨rfl, hmw5, hbw5⟩; have k0w5 := through hbw5 (a := ⟨fb, fq + i, none⟩) (v := .int .i64 (wd F i)) (by simpa using hcF) (by dsimp only; omega); have k1w5 := through hbw5 (a := ⟨tb, tq + i, none⟩) (v := .int .i64 (wd T i)) (by simpa using hcT) (by dsimp only; omega); have b0w5 := through hbw5 (a := ⟨w.heap.size, 0, none⟩) (v := .int .i64 0) (by simpa using c0) (by dsimp only; omega); have b1w5 := through hbw5 (a := ⟨w.heap.size, 1, none⟩) (v := .int .i64 0) (by simpa using c1) (by dsimp only; omega); have g0w5 := throughF hbw5 (a := ⟨w.heap.size, 0, none⟩) (v := false) (by simpa using f0) (by dsimp only; omega); have g1w5 := throughF hbw5 (a := ⟨w.heap.size, 1, none⟩) (v := false) (by simpa using f1) (by dsimp only; omega)))
          go_wp2_with fail
          go_roundw
          case rel => exact ⟨i + 1, by first | rfl | simp, by omega, H, by rw [HP.out] at hmw5; exact hmw5.up (by omega), ⟨b0w5, b1w5, g0w5, g1w5⟩, (hB.drew).trans (hbw5.mono (by omega))⟩
          case measure => simp [intOf]; omega
      | true =>
        cases ha : becAt true ((F.zip T).take i) (wd F i) with
        | some y =>
          have H : twAt true F T i = true := tw_yes ha
          go_wp2_with fail
          go_region_held3 (fun w' => w'.cell? ⟨fb, fq + i, none⟩ = some (.int .i64 (wd F i)) ∧ w'.cell? ⟨tb, tq + i, none⟩ = some (.int .i64 (wd T i))) (go_keep) (first | (go_at_call 19; refine (note_again (w.heap.size + 1) _ _ (wd F i) (wd T i) y _ hm.drew hwF ha).mono ?_; rintro e w5 ⟨rfl, rfl⟩))
          go_wp2_with fail
          refine bodyPost_ret (v := .tuple #[.map none, .agg #[.int .i64 5, .int .i64 (i : Nat)]]) (by simp [results, Try.results11, go_sem, c0, c1]) rfl ⟨Or.inl ⟨i, hlt, H, HN.out, rfl⟩, ?_⟩
          repeat (first | refine Below.drew ?_ | refine Below.setCell ?_ (by dsimp only; omega) _ | exact hB)
        | none =>
          cases hb : (if wd T i = wd F i then some (wd T i) else becAt true ((F.zip T).take i) (wd T i)) with
          | some y =>
            have H : twAt true F T i = true := tw_yes2 hb
            go_wp2_with fail
            go_region_held3 (fun w' => w'.cell? ⟨fb, fq + i, none⟩ = some (.int .i64 (wd F i)) ∧ w'.cell? ⟨tb, tq + i, none⟩ = some (.int .i64 (wd T i))) (go_keep) (first | (go_at_call 19; refine (note_new (w.heap.size + 1) (2 * i) _ (wd F i) (wd T i) _ hm.drew (by omega) hwF hwT ha).mono ?_; rintro e w5 ⟨rfl, hmw5, hbw5⟩; have k0w5 := through hbw5 (a := ⟨fb, fq + i, none⟩) (v := .int .i64 (wd F i)) (by simpa using hcF) (by dsimp only; omega); have k1w5 := through hbw5 (a := ⟨tb, tq + i, none⟩) (v := .int .i64 (wd T i)) (by simpa using hcT) (by dsimp only; omega); have b0w5 := through hbw5 (a := ⟨w.heap.size, 0, none⟩) (v := .int .i64 0) (by simpa using c0) (by dsimp only; omega); have b1w5 := through hbw5 (a := ⟨w.heap.size, 1, none⟩) (v := .int .i64 0) (by simpa using c1) (by dsimp only; omega); have g0w5 := throughF hbw5 (a := ⟨w.heap.size, 0, none⟩) (v := false) (by simpa using f0) (by dsimp only; omega); have g1w5 := throughF hbw5 (a := ⟨w.heap.size, 1, none⟩) (v := false) (by simpa using f1) (by dsimp only; omega)))
            have hBw5 : Below w.heap.size w w5 := (hB.drew).trans (hbw5.mono (by omega))
            have hlw5 := hmw5.lt
            go_wp2_with fail
            go_region_held3 (fun w' => w'.cell? ⟨fb, fq + i, none⟩ = some (.int .i64 (wd F i)) ∧ w'.cell? ⟨tb, tq + i, none⟩ = some (.int .i64 (wd T i))) (go_keep) (first | (go_at_call 19; refine (note_again (w.heap.size + 1) _ _ (wd T i) (wd F i) y _ hmw5.drew hwT hb).mono ?_; rintro e w6 ⟨rfl, rfl⟩))
            go_wp2_with fail
            refine bodyPost_ret (v := .tuple #[.map none, .agg #[.int .i64 5, .int .i64 (i : Nat)]]) (by simp [results, Try.results11, go_sem, b0w5, b1w5]) rfl ⟨Or.inl ⟨i, hlt, H, HN.out, rfl⟩, ?_⟩
            repeat (first | refine Below.drew ?_ | refine Below.setCell ?_ (by dsimp only; omega) _ | exact hBw5)
          | none =>
            have H : Hid (∀ j, j < i + 1 → twAt true F T j = false) := tw_upto HN.out (tw_no2 ha hb)
            have HP : Hid ((fun k => if k = wd T i then some (wd F i) else if k = wd F i then some (wd T i) else becAt true ((F.zip T).take i) k) = becAt true ((F.zip T).take (i + 1))) := by rw [HZ.out]; exact bec_put2 ha hb
            go_wp2_with fail
            go_region_held3 (fun w' => w'.cell? ⟨fb, fq + i, none⟩ = some (.int .i64 (wd F i)) ∧ w'.cell? ⟨tb, tq + i, none⟩ = some (.int .i64 (wd T i))) (go_keep) (first | (go_at_call 19; refine (note_new (w.heap.size + 1) (2 * i) _ (wd F i) (wd T i) _ hm.drew (by omega) hwF hwT ha).mono ?_; rintro e w5 ⟨rfl, hmw5, hbw5⟩; have k0w5 := through hbw5 (a := ⟨fb, fq + i, none⟩) (v := .int .i64 (wd F i)) (by simpa using hcF) (by dsimp only; omega); have k1w5 := through hbw5 (a := ⟨tb, tq + i, none⟩) (v := .int .i64 (wd T i)) (by simpa using hcT) (by dsimp only; omega); have b0w5 := through hbw5 (a := ⟨w.heap.size, 0, none⟩) (v := .int .i64 0) (by simpa using c0) (by dsimp only; omega); have b1w5 := through hbw5 (a := ⟨w.heap.size, 1, none⟩) (v := .int .i64 0) (by simpa using c1) (by dsimp only; omega); have g0w5 := throughF hbw5 (a := ⟨w.heap.size, 0, none⟩) (v := false) (by simpa using f0) (by dsimp only; omega); have g1w5 := throughF hbw5 (a := ⟨w.heap.size, 1, none⟩) (v := false) (by simpa using f1) (by dsimp only; omega)))
            have hBw5 : Below w.heap.size w w5 := (hB.drew).trans (hbw5.mono (by omega))
            have hlw5 := hmw5.lt
            go_wp2_with fail
            go_region_held3 (fun w' => w'.cell? ⟨fb, fq + i, none⟩ = some (.int .i64 (wd F i)) ∧ w'.cell? ⟨tb, tq + i, none⟩ = some (.int .i64 (wd T i))) (go_keep) (first | (go_at_call 19; refine (note_new (w.heap.size + 1) (2 * i + 1) _ (wd T i) (wd F i) _ hmw5.drew (by omega) hwT hwF hb).mono ?_; rintro e w6 ⟨rfl, hmw6, hbw6⟩; have k0w6 := through hbw6 (a := ⟨fb, fq + i, none⟩) (v := .int .i64 (wd F i)) (by simpa using k0w5) (by dsimp only; omega); have k1w6 := through hbw6 (a := ⟨tb, tq + i, none⟩) (v := .int .i64 (wd T i)) (by simpa using k1w5) (by dsimp only; omega); have b0w6 := through hbw6 (a := ⟨w.heap.size, 0, none⟩) (v := .int .i64 0) (by simpa using b0w5) (by dsimp only; omega); have b1w6 := through hbw6 (a := ⟨w.heap.size, 1, none⟩) (v := .int .i64 0) (by simpa using b1w5) (by dsimp only; omega); have g0w6 := throughF hbw6 (a := ⟨w.heap.size, 0, none⟩) (v := false) (by simpa using g0w5) (by dsimp only; omega); have g1w6 := throughF hbw6 (a := ⟨w.heap.size, 1, none⟩) (v := false) (by simpa using g1w5) (by dsimp only; omega)))
            go_wp2_with fail
            go_roundw
            case rel => exact ⟨i + 1, by first | rfl | simp, by omega, H, by rw [HP.out] at hmw6; exact hmw6.up (by omega), ⟨b0w6, b1w6, g0w6, g1w6⟩, (hBw5.drew).trans (hbw6.mono (by omega))⟩
            case measure => simp [intOf]; omega
    · have he : i = F.length := by omega
      subst he
      rw [zip_all HL.out] at hm
      go_wp2_with fail
      refine bodyPost_ret (v := .tuple #[.map (some (w.heap.size + 1)), .agg #[.int .i64 0, .int .i64 0]]) (by simp [results, Try.results11, go_sem, c0, c1]) rfl ⟨Or.inr ⟨HN.out, w.heap.size + 1, rfl, by omega, ?_⟩, ?_⟩
      · repeat (first | refine IntMap.set ?_ (by dsimp only; omega) _ | exact hm)
      · repeat (first | refine Below.setCell ?_ (by dsimp only; omega) _ | exact hB)

/-- What turning's function leans on: its box, its map. -/
structure BecI (f : Int → Option Int) (Bm mm top : Nat) (w : World) : Prop where
  box : w.cell? ⟨Bm, 0, none⟩ = some (.map (some mm))
  map : IntMap w mm top f
theorem BecI.below {f : Int → Option Int} {Bm mm top : Nat} {w w' : World} (h : BecI f Bm mm top w) (hb : Below w.heap.size w w') : BecI f Bm mm top w' :=
  ⟨through hb h.box (World.block_lt_of_cell? _ _ h.box), h.map.below hb h.map.lt⟩

set_option maxHeartbeats 1000000 in
theorem bturn1_any (f : Int → Option Int) (Bm mm top : Nat) (o : Int) (w : World) (h : BecI f Bm mm top w) (ho : (Lit.int .i64 o).wf = true) :
    Calls Try.prog 20 #[.int .i64 o, .pointer (some ⟨Bm, 0, none⟩)] w fun e w' => e = .returned (.int .i64 ((f o).getD o)) ∧ Below w.heap.size w w' := by
  obtain ⟨n, D, hD, hDn, hDh, hDa⟩ := h.map
  have hho := hDh o
  have x0 := h.box
  have y0 := World.block_lt_of_cell? _ _ x0
  cases hf : f o with
  | some x =>
    have hax := hDa o x hf
    rw [hf] at hho
    simp only [Option.isSome_some] at hho
    clear hDh hDa hf
    go_enter Try.func20, Try.ntmps20
    go_wp2_with (at_lookup; refine wpList_lookup_own_ok_int _ rfl _ _ 34 rfl 3 3 .i64 key3 ty59 ty3 (zero3 _) mm n D rfl hD _ _ rfl (keyOf_int_mk ty3 ho) ?_; intro c hat hwc; have hcs : c = x := (by rw [hax] at hat; simp at hat; exact hat.symm); subst hcs; clear hat hwc)
    go_ret
    exact ⟨rfl, Below.refl _ _⟩
  | none =>
    rw [hf] at hho
    simp only [Option.isSome_none] at hho
    clear hDh hDa hf
    go_enter Try.func20, Try.ntmps20
    go_wp2_with (at_lookup; refine wpList_lookup_own_ok_int _ rfl _ _ 34 rfl 3 3 .i64 key3 ty59 ty3 (zero3 _) mm n D rfl hD _ _ rfl (keyOf_int_mk ty3 ho) ?_; intro c hat hwc; clear hat hwc)
    go_ret
    exact ⟨rfl, Below.refl _ _⟩
theorem bturn_enters (args : Array Value) (w : World) : Sem.run Try.prog (callFunc 20 args) w = .ok (.enter 20 args) w := by kernel_rfl
theorem bturn_turns (both : Bool) (L : List (Int × Int)) (Bm mm top : Nat) : Turns 20 #[.pointer (some ⟨Bm, 0, none⟩)] (otherP both L) (BecI (becAt both L) Bm mm top) :=
  ⟨bturn_enters, fun _ _ h hb => h.below hb, fun o w h ho => bturn1_any (becAt both L) Bm mm top o w h ho⟩
theorem bturning_any (f : Int → Option Int) (mm top : Nat) (w : World) (h : IntMap w mm top f) :
    Calls Try.prog 12 #[.map (some mm)] w fun e w' => e = .returned (.func (.func 20) #[] #[.pointer (some ⟨w.heap.size, 0, none⟩)]) ∧ BecI f w.heap.size mm top w' ∧ Below w.heap.size w w' := by
  go_enter Try.func12, Try.ntmps12
  go_wp2_with fail
  go_ret
  refine ⟨rfl, ⟨?_, h.below ((Below.refl _ _).alloc (Nat.le_refl _) _) h.lt⟩, (Below.refl _ _).alloc (Nat.le_refl _) _⟩
  rw [cell_at2 rfl]; rfl
end Go.Proofs.Ytgggmdanpdggpac
