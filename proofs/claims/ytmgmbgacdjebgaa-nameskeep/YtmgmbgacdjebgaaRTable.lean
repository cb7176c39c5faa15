/- gessoref7.Table: is it one. -/
import Derived.Test.YtmgmbgacdjebgaaRText
namespace Go.Proofs.Ytmgmbgacdjebgaa
open Go.RowKit

/-- What Look tells of whatever word: an error, a form. -/
def lookEr (W : List Int) (x : Int) : Int := if thingB W x = true then 0 else 3
def lookFo (W : List Int) (x : Int) : Int := if thingB W x = true then formAt W (begP x) else 0
def LookAny (W : List Int) (x : Int) (e : Ending) : Prop := ∃ c h v, e = .returned (.tuple #[thingV c h (lookFo W x) v, .int .i64 (lookEr W x)]) ∧ ∃ ad n k, v = .slice ad n k
theorem rlook_any (W : List Int) (b off cap : Nat) (x : Int) (w : World) (hr : Row w b off W) (hu : unfit W 2 = none) (hl : W.length ≤ 2000) (hcap : W.length ≤ cap) :
    Calls Try.prog 27 #[heapV (some ⟨b, off, none⟩) W.length cap, .int .i64 x] w fun e w' => LookAny W x e ∧ Below w.heap.size w w' := by
  cases ht : thingB W x with
  | false =>
    refine (rlook_kind W b off cap x w hr hu hl ht).mono fun e w' hp => ⟨⟨0, 0, .slice none 0 0, ?_, none, 0, 0, rfl⟩, hp.2⟩
    rw [hp.1]; unfold lookFo lookEr; rw [ht]; rfl
  | true =>
    obtain ⟨p, rfl, hm, _⟩ := thing_even ht
    refine (rlook_yes W b off cap p w hr hu hl hcap ht hm).mono fun e w' hp => ⟨?_, hp.2⟩
    obtain ⟨v, he, ad, k, hv, _⟩ := hp.1
    refine ⟨wd W p, wd W (p + 1), v, ?_, ad, _, k, hv⟩
    rw [he]; unfold lookFo lookEr; rw [ht, begP_ref]; rfl
theorem row_no {W : List Int} {x : Int} (h : rowB W x = false) : (x != 0) = true ∧ ((lookEr W x != 0) = true ∨ ((lookEr W x != 0) = false ∧ (lookFo W x != 1) = true)) := by
  unfold rowB bytesB at h
  simp only [Bool.or_eq_false_iff, beq_eq_false_iff_ne] at h
  refine ⟨by simpa using h.1, ?_⟩
  unfold lookEr lookFo
  cases ht : thingB W x with
  | false => left; decide
  | true =>
    right
    rw [ht] at h
    simp only [Bool.true_and, beq_eq_false_iff_ne] at h
    simpa using h.2
theorem row_yes {W : List Int} {x : Int} (h : rowB W x = true) : (x != 0) = false ∨ ((x != 0) = true ∧ (lookEr W x != 0) = false ∧ (lookFo W x != 1) = false) := by
  rcases row_out h with h | h
  · left; simp [h]
  · by_cases h0 : x = 0
    · left; simp [h0]
    · right
      obtain ⟨b0, _, b2⟩ := bytes_out h
      unfold lookEr lookFo
      rw [b0]
      exact ⟨by simpa using h0, by simp, by simpa using b2⟩
theorem table_thing {W : List Int} {o : Int} (h : thingB W o = false) : tableB W o = false := by unfold tableB; rw [h]; rfl
theorem table_form {W : List Int} {o : Int} (h : formAt W (begP o) ≠ 0) : tableB W o = false := by
  have : (formAt W (begP o) == 0) = false := by simpa using h
  unfold tableB; rw [this]; simp
theorem table_none {W : List Int} {o : Int} (h : slotsAt W (begP o) = 0) : tableB W o = false := by
  unfold tableB; rw [h]; simp
theorem table_row {W : List Int} {o : Int} {i : Nat} (hi : i < (textP W (begP o)).length) (h : rowB W (wd (textP W (begP o)) i) = false) : tableB W o = false := by
  have e : (textP W (begP o)).all (rowB W) = false := by
    rw [List.all_eq_false]
    refine ⟨(textP W (begP o))[i], List.getElem_mem hi, ?_⟩
    unfold wd at h
    rw [List.getD_eq_getElem?_getD, List.getElem?_eq_getElem hi] at h
    have h' : rowB W (textP W (begP o))[i] = false := h
    rw [h']; decide
  unfold tableB; rw [e]; simp
theorem table_yes {W : List Int} {o : Int} (h1 : thingB W o = true) (h2 : formAt W (begP o) = 0) (h3 : 0 < slotsAt W (begP o)) (h4 : ∀ j, j < (textP W (begP o)).length → rowB W (wd (textP W (begP o)) j) = true) : tableB W o = true := by
  have e : (textP W (begP o)).all (rowB W) = true := by
    rw [List.all_eq_true]
    intro x hx
    obtain ⟨j, hj, rfl⟩ := List.getElem_of_mem hx
    have := h4 j hj
    unfold wd at this
    rw [List.getD_eq_getElem?_getD, List.getElem?_eq_getElem hj] at this
    exact this
  unfold tableB; rw [e, h1, h2]; simp [h3]

theorem box4d {w w' : World} {x0 x1 x2 x3 : Value} {t : TypeId} (hb : Below (w.alloc (.cells #[x0, x1, x2, x3] t)).drew.heap.size (w.alloc (.cells #[x0, x1, x2, x3] t)).drew w') :
    (w'.cell? ⟨w.heap.size, 0, none⟩ = some x0 ∧ w'.cell? ⟨w.heap.size, 1, none⟩ = some x1 ∧ w'.cell? ⟨w.heap.size, 2, none⟩ = some x2 ∧ w'.cell? ⟨w.heap.size, 3, none⟩ = some x3) ∧
      (w'.frozen? ⟨w.heap.size, 0, none⟩ = false ∧ w'.frozen? ⟨w.heap.size, 1, none⟩ = false ∧ w'.frozen? ⟨w.heap.size, 2, none⟩ = false ∧ w'.frozen? ⟨w.heap.size, 3, none⟩ = false) ∧ w.heap.size < w'.heap.size ∧ Below w.heap.size w w' := by
  have hB : Below (w.heap.size + 1) (w.alloc (.cells #[x0, x1, x2, x3] t)) w' := (Below.refl _ _).drew.trans (hb.mono (by simp))
  have hs := hB.size
  have A : ∀ j, w'.cell? ⟨w.heap.size, j, none⟩ = #[x0, x1, x2, x3][j]? := fun j => by
    rw [hB.cell (p := ⟨w.heap.size, j, none⟩) (by simp)]; exact cell_at2 rfl
  have A' : ∀ j, w'.frozen? ⟨w.heap.size, j, none⟩ = false := fun j => by
    rw [hB.frozen (p := ⟨w.heap.size, j, none⟩) (by simp)]; exact frozen_at2 rfl
  exact ⟨⟨A 0, A 1, A 2, A 3⟩, ⟨A' 0, A' 1, A' 2, A' 3⟩, by simp at hs; omega, ((Below.refl _ _).alloc (Nat.le_refl _) _).trans (hB.mono (by omega))⟩
theorem below_drew {w w' : World} (hb : Below w.drew.heap.size w.drew w') : Below w.heap.size w w' := (Below.refl _ _).drew.trans (hb.mono (by simp))

set_option maxHeartbeats 1000000 in
theorem rtable_kind (W : List Int) (b off cap : Nat) (o : Int) (w : World) (hr : Row w b off W) (hu : unfit W 2 = none) (hl : W.length ≤ 2000) (ho : thingB W o = false) :
    Calls Try.prog 12 #[heapV (some ⟨b, off, none⟩) W.length cap, .int .i64 o] w fun e w' => e = .returned (.bool false) ∧ Below w.heap.size w w' := by
  go_enter Try.func12, Try.ntmps12
  go_wp2_with (go_at_call 27; refine (rlook_kind W b off cap _ _ (hr.alloc _) hu hl ho).mono ?_; rintro e w1 ⟨rfl, hb1⟩)
  go_ret
  exact ⟨rfl, (below_call hb1).trans (((Below.refl _ _).alloc (Nat.le_refl _) _).mono (below_call hb1).size)⟩

set_option maxRecDepth 20000 in
set_option maxHeartbeats 4000000 in
theorem rtable_thing (W : List Int) (b off cap p : Nat) (w : World) (hr : Row w b off W) (hu : unfit W 2 = none) (hl : W.length ≤ 2000) (hcap : W.length ≤ cap) (ho : thingB W (2 * (p : Int)) = true) (hmem : p ∈ places W 2) (B : Bool) (HB : Hid (tableB W (2 * (p : Int)) = B)) :
    Calls Try.prog 12 #[heapV (some ⟨b, off, none⟩) W.length cap, .int .i64 (2 * (p : Int))] w fun e w' => e = .returned (.bool B) ∧ Below w.heap.size w w' := by
  have hsl : (slotsOf W p).length = slotsAt W p := slots_length (fits_out (place_fit hu hmem).2.2.1).2.2.2.2
  have h60 : (slotsOf W p).length ≤ 60 := by rw [hsl]; have := (fits_out (place_fit hu hmem).2.2.1).2.2.2.1; unfold slotsAt; omega
  have HL : Hid ((slotsOf W p).length = slotsAt W p) := hsl
  clear hsl
  by_cases hf : (formAt W p != 0) = true
  · have hB : Hid (B = false) := by rw [← HB.out]; exact table_form (by rw [begP_ref]; simpa using hf)
    go_enter Try.func12, Try.ntmps12
    go_wp2_with (go_at_call 27; refine (rlook_yes W b off cap p _ (hr.alloc _) hu hl hcap ho hmem).mono ?_; rintro e w1 ⟨⟨v1, rfl, ad1, c1, rfl, hs1⟩, hb1⟩)
    go_ret
    exact ⟨by rw [hB.out]; rfl, (below_call hb1).trans (((Below.refl _ _).alloc (Nat.le_refl _) _).mono (below_call hb1).size)⟩
  · have hf' : (formAt W p != 0) = false := by simpa using hf
    have HF : Hid (formAt W p = 0) := by simp at hf; exact hf
    clear hf
    by_cases h0 : (slotsOf W p).length = 0
    · have hB : Hid (B = false) := by rw [← HB.out]; exact table_none (by rw [begP_ref, ← HL.out]; exact h0)
      have e0 : slotsOf W p = [] := List.eq_nil_of_length_eq_zero h0
      clear h0
      go_enter Try.func12, Try.ntmps12
      go_wp2_with (go_at_call 27; refine (rlook_yes W b off cap p _ (hr.alloc _) hu hl hcap ho hmem).mono ?_; rintro e w1 ⟨⟨v1, rfl, ad1, c1, rfl, hs1⟩, hb1⟩; rw [e0])
      go_ret
      exact ⟨by rw [hB.out]; rfl, (below_call hb1).trans (((Below.refl _ _).alloc (Nat.le_refl _) _).mono (below_call hb1).size)⟩
    · have hn0 : ((slotsOf W p).length == 0) = false := by simpa using h0
      have hn1 : (((slotsOf W p).length : Int) == 0) = false := by rw [beq_eq_false_iff_ne]; omega
      have H0 : Hid (0 < (slotsOf W p).length) := Nat.pos_of_ne_zero h0
      clear h0
      generalize hxs : slotsOf W p = xs at *
      go_enter Try.func12, Try.ntmps12
      go_wp2_with (go_at_call 27; refine (rlook_yes W b off cap p _ (hr.alloc _) hu hl hcap ho hmem).mono ?_; rintro e w1 ⟨⟨v1, rfl, ad1, c1, rfl, hs1⟩, hb1⟩; rw [hxs] at hs1 ⊢; have HS : Hid (SlotsAt ad1 xs w1) := (slots_at_own hs1); clear hs1; have z1 := hb1.size; simp only [World.size_alloc] at z1)
      obtain ⟨g, o, rfl, hbl, hcx⟩ := HS.out H0.out
      have HC : Hid (∀ k, k < xs.length → w1.cell? ⟨g, o + k, none⟩ = some (.int .i64 (wd xs k))) := hcx
      clear hcx
      have hB1 : Below (w1.heap.size + 1) (w1.alloc (.cells #[.int .i64 (wd W p), .int .i64 (wd W (p + 1)), .int .i64 (formAt W p), .slice (some ⟨g, o, none⟩) xs.length c1] 60)) (w1.alloc (.cells #[.int .i64 (wd W p), .int .i64 (wd W (p + 1)), .int .i64 (formAt W p), .slice (some ⟨g, o, none⟩) xs.length c1] 60)) := Below.refl _ _
      go_loopw [7] (fun s wr => ∃ (i : Nat), s = .int .i64 i ∧ i ≤ xs.length ∧ Hid (∀ j, j < i → rowB W (wd xs j) = true) ∧ Below (w1.heap.size + 1) (w1.alloc (.cells #[.int .i64 (wd W p), .int .i64 (wd W (p + 1)), .int .i64 (formAt W p), .slice (some ⟨g, o, none⟩) xs.length c1] 60)) wr) (fun s _ => xs.length - (intOf s).toNat)
      case atStart => exact ⟨0, rfl, Nat.zero_le _, fun j hj => by omega, hB1⟩
      case round =>
        rename_i wr
        obtain ⟨i, rfl, hi', HI, hB⟩ := hrel
        clear hB1
        have hbz := hB.size
        simp only [World.size_alloc] at hbz
        have hbx : wr.cell? ⟨w1.heap.size, 3, none⟩ = some (.slice (some ⟨g, o, none⟩) xs.length c1) := by
          rw [hB.cell (p := ⟨w1.heap.size, 3, none⟩) (by simp)]; simp
        have hW : Below w.heap.size w wr := (below_call hb1).trans ((((Below.refl _ _).alloc (Nat.le_refl _) _).trans (hB.mono (by omega))).mono (below_call hb1).size)
        by_cases hlt : i < xs.length
        · have hcell : wr.cell? ⟨g, o + i, none⟩ = some (.int .i64 (wd xs i)) := by
            rw [hB.cell (p := ⟨g, o + i, none⟩) (by dsimp only; omega), cell_past _ (by exact hbl)]; exact HC.out i hlt
          have hhx : wr.cell? ⟨w.heap.size, 0, none⟩ = some (.slice (some ⟨b, off, none⟩) W.length cap) := by
            rw [hB.cell (p := ⟨w.heap.size, 0, none⟩) (by dsimp only; omega), cell_past _ (by dsimp only; omega)]; exact box_one hb1
          have hrow : Row wr b off W := ((((hr.alloc _).same hb1).alloc _).below hB (by have := hr.lt; omega))
          have hil : (i : Int) < (xs.length : Int) := by omega
          have n1 : ¬ w1.heap.size = wr.heap.size := by omega
          have n2 : ¬ g = wr.heap.size := by omega
          have n3 := World.new_ne wr _ hhx
          have n4 := World.new_ne wr _ hbx
          have n5 := World.new_ne wr _ hcell
          have hwx : Hid (∀ y, wd xs i = y → rowB W y = false → B = false) := fun y e hy => by
            rw [← HB.out]
            refine table_row (i := i) (by rw [begP_ref]; show i < (slotsOf W p).length; rw [hxs]; exact hlt) ?_
            rw [begP_ref]; show rowB W (wd (slotsOf W p) i) = false
            rw [hxs, e]; exact hy
          have hwy : Hid (∀ y, wd xs i = y → rowB W y = true → ∀ j, j < i + 1 → rowB W (wd xs j) = true) := fun y e hy j hj => by
            by_cases he : j = i
            · subst he; rw [e]; exact hy
            · exact HI.out j (by omega)
          obtain ⟨x, hex⟩ : ∃ x, wd xs i = x := ⟨_, rfl⟩
          have HEX : Hid (wd xs i = x) := hex
          rw [hex] at hcell
          clear hex
          cases hrw : rowB W x with
          | true =>
            have HN : Hid (∀ j, j < i + 1 → rowB W (wd xs j) = true) := hwy.out x HEX.out hrw
            rcases row_yes hrw with h1 | ⟨h1, h2, h3⟩
            all_goals
              clear hrw
              go_wp2_with fail
              go_region_held3 (fun w' => w'.cell? ⟨w.heap.size, 0, none⟩ = some (.slice (some ⟨b, off, none⟩) W.length cap) ∧ w'.cell? ⟨w1.heap.size, 3, none⟩ = some (.slice (some ⟨g, o, none⟩) xs.length c1) ∧ w'.cell? ⟨g, o + i, none⟩ = some (.int .i64 x)) (go_keep) (first | (go_at_call 27; refine (rlook_any W b off cap x _ (by first | exact hrow.same (Below.refl _ _).drew | exact (hrow.alloc _).same (Below.refl _ _).drew) hu hl hcap).mono ?_; rintro e w2 ⟨⟨c2, h2', v2, rfl, ad2, n2, k2, rfl⟩, hb2⟩; have hb3 : Below wr.heap.size wr w2 := (by first | exact below_drew hb2 | exact (box4d hb2).2.2.2); have e1 := (hb3.cell (p := ⟨w.heap.size, 0, none⟩) (by dsimp only; omega)).trans hhx; have e2 := (hb3.cell (p := ⟨w1.heap.size, 3, none⟩) (by dsimp only; omega)).trans hbx; have e3 := (hb3.cell (p := ⟨g, o + i, none⟩) (by dsimp only; omega)).trans hcell; have s3 := hb3.size; have l1 : w1.heap.size < w2.heap.size := (by omega); have l2 : g < w2.heap.size := (by omega); (try (have q0 := box4d hb2; obtain ⟨⟨m0, m1, m2, m3⟩, ⟨f0, f1, f2, f3⟩, mz, _⟩ := q0))))
              all_goals go_wp2_with fail
              all_goals
                go_roundw
                case rel => exact ⟨i + 1, by first | rfl | simp, by omega, HN, (by repeat (first | refine Below.setCell ?_ (by dsimp only; omega) _ | refine Below.alloc ?_ (by omega) _ | exact hB.trans (hb3.mono (by omega))))⟩
                case measure => simp [intOf]; omega
          | false =>
            have HN : Hid (B = false) := hwx.out x HEX.out hrw
            rcases row_no hrw with ⟨h1, h2 | ⟨h2, h3⟩⟩
            all_goals
              clear hrw
              go_wp2_with fail
              go_region_held3 (fun w' => w'.cell? ⟨w.heap.size, 0, none⟩ = some (.slice (some ⟨b, off, none⟩) W.length cap) ∧ w'.cell? ⟨w1.heap.size, 3, none⟩ = some (.slice (some ⟨g, o, none⟩) xs.length c1) ∧ w'.cell? ⟨g, o + i, none⟩ = some (.int .i64 x)) (go_keep) (first | (go_at_call 27; refine (rlook_any W b off cap x _ (by first | exact hrow.same (Below.refl _ _).drew | exact (hrow.alloc _).same (Below.refl _ _).drew) hu hl hcap).mono ?_; rintro e w2 ⟨⟨c2, h2', v2, rfl, ad2, n2, k2, rfl⟩, hb2⟩; have hb3 : Below wr.heap.size wr w2 := (by first | exact below_drew hb2 | exact (box4d hb2).2.2.2); have e1 := (hb3.cell (p := ⟨w.heap.size, 0, none⟩) (by dsimp only; omega)).trans hhx; have e2 := (hb3.cell (p := ⟨w1.heap.size, 3, none⟩) (by dsimp only; omega)).trans hbx; have e3 := (hb3.cell (p := ⟨g, o + i, none⟩) (by dsimp only; omega)).trans hcell; have s3 := hb3.size; have l1 : w1.heap.size < w2.heap.size := (by omega); have l2 : g < w2.heap.size := (by omega); (try (have q0 := box4d hb2; obtain ⟨⟨m0, m1, m2, m3⟩, ⟨f0, f1, f2, f3⟩, mz, _⟩ := q0))))
              all_goals go_wp2_with fail
              all_goals
                go_ret
                refine ⟨by rw [HN.out]; rfl, ?_⟩
                repeat (first | refine Below.setCell ?_ (by dsimp only; omega) _ | refine Below.alloc ?_ (by omega) _ | exact hW.trans (hb3.mono hW.size))
        · have e : i = xs.length := by omega
          subst e
          have hB' : Hid (B = true) := by
            rw [← HB.out]
            refine table_yes ho (by rw [begP_ref]; exact HF.out) (by rw [begP_ref, ← HL.out]; exact H0.out) ?_
            rw [begP_ref]
            show ∀ j, j < (slotsOf W p).length → rowB W (wd (slotsOf W p) j) = true
            rw [hxs]; exact HI.out
          go_wp2_with fail
          go_ret
          exact ⟨by rw [hB'.out]; rfl, hW⟩

theorem rtable_any (W : List Int) (b off cap : Nat) (o : Int) (w : World) (hr : Row w b off W) (hu : unfit W 2 = none) (hl : W.length ≤ 2000) (hcap : W.length ≤ cap) :
    Calls Try.prog 12 #[heapV (some ⟨b, off, none⟩) W.length cap, .int .i64 o] w fun e w' => e = .returned (.bool (tableB W o)) ∧ Below w.heap.size w w' := by
  cases ht : thingB W o with
  | false => rw [table_thing ht]; exact rtable_kind W b off cap o w hr hu hl ht
  | true =>
    obtain ⟨p, rfl, hm, _⟩ := thing_even ht
    exact rtable_thing W b off cap p w hr hu hl hcap ht hm _ rfl
end Go.Proofs.Ytmgmbgacdjebgaa
