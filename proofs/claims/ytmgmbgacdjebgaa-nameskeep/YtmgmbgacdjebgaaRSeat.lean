/- gessoref7.Seat: where a text is, or would be. -/
import Derived.Test.YtmgmbgacdjebgaaRTable
namespace Go.Proofs.Ytmgmbgacdjebgaa
open Go.RowKit

theorem hit_slots {W : List Int} {p q : Nat} {T : List Int} (hq : q < slotsAt W p) : hitB W p T q = (wd (slotsOf W p) q == 0 || textP W (begP (wd (slotsOf W p) q)) == T) := by
  unfold hitB; rw [slots_at hq]
/-- What a slot of a table is that is not nil. -/
theorem row_text {W : List Int} {x : Int} (hc : (checkOf W).1 = 0) (h : rowB W x = true) (h0 : x ≠ 0) : ∃ q : Nat, x = 2 * (q : Int) ∧ begP x = q ∧ thingB W x = true ∧ q ∈ places W 2 ∧ formAt W q = 1 ∧ (∀ c ∈ slotsOf W q, 0 ≤ c ∧ c ≤ 255) ∧ (slotsOf W q).length ≤ 60 := by
  have hb := (row_out h).resolve_left h0
  obtain ⟨b0, b1, b2⟩ := bytes_out hb
  obtain ⟨q, e, hm, hq⟩ := thing_even b0
  have eq : begP x = q := hq
  obtain ⟨t1, t2, t3⟩ := text_byte hc hb
  rw [eq] at t1 t2 t3 b2
  exact ⟨q, e, eq, b0, hm, b2, t1, by show (textP W q).length ≤ 60; omega⟩

set_option maxRecDepth 20000 in
set_option maxHeartbeats 4000000 in
theorem rseat_any (W : List Int) (b off cap p : Nat) (t : ByteArray) (w : World) (hr : Row w b off W) (hc : (checkOf W).1 = 0) (hcap : W.length ≤ cap) (ho : thingB W (2 * (p : Int)) = true) (hmem : p ∈ places W 2) (h0 : 0 < (slotsOf W p).length) (hrows : ∀ j, j < (slotsOf W p).length → rowB W (wd (slotsOf W p) j) = true) (ht : t.size ≤ 60) (sv : Int) (HV : Hid (seatI (seatP W p (nums t)) = sv)) :
    Calls Try.prog 29 #[heapV (some ⟨b, off, none⟩) W.length cap, .int .i64 (2 * (p : Int)), .string t] w fun e w' => e = .returned (.int .i64 sv) ∧ Below w.heap.size w w' := by
  obtain ⟨hfr, hu⟩ := check_ok hc
  obtain ⟨_, hl, _⟩ := front_out hfr
  have hsl : (slotsOf W p).length = slotsAt W p := slots_length (fits_out (place_fit hu hmem).2.2.1).2.2.2.2
  have h60 : (slotsOf W p).length ≤ 60 := by rw [hsl]; have := (fits_out (place_fit hu hmem).2.2.1).2.2.2.1; unfold slotsAt; omega
  have HL : Hid ((slotsOf W p).length = slotsAt W p) := hsl
  have HC : Hid ((checkOf W).1 = 0) := hc
  have HU : Hid (unfit W 2 = none) := hu
  have HR : Hid (∀ j, j < (slotsOf W p).length → rowB W (wd (slotsOf W p) j) = true) := hrows
  have HH : Hid (∀ q, q < slotsAt W p → hitB W p (nums t) q = (wd (slotsOf W p) q == 0 || textP W (begP (wd (slotsOf W p) q)) == nums t)) := fun q hq => hit_slots hq
  have HN : Hid ((nums t).length = t.size) := nums_length t
  obtain ⟨s, hs⟩ : ∃ s : Nat, (nums t).sum = (s : Int) := ⟨(nums t).sum.toNat, by have := (sum_small (nums t) (nums_byte t)).1; omega⟩
  have hs1 : s ≤ 15300 := by have := sum_to (nums_byte t) (by rw [HN.out]; exact ht) (nums t).length; rw [List.take_length, hs] at this; omega
  have HS : Hid ((nums t).sum = (s : Int)) := hs
  have HST : Hid ((nums t).sum.toNat = s) := by show (nums t).sum.toNat = s; rw [hs]; simp
  clear hsl hc hrows hs hfr
  generalize hxs : slotsOf W p = xs at *
  go_enter Try.func29, Try.ntmps29
  go_wp2_with (go_at_call 27; refine (rlook_yes W b off cap p _ (hr.alloc _) hu hl hcap ho hmem).mono ?_; rintro e w1 ⟨⟨v1, rfl, ad1, c1, rfl, hs1'⟩, hb1⟩; rw [hxs] at hs1' ⊢; have HSl : Hid (SlotsAt ad1 xs w1) := (slots_at_own hs1'); clear hs1'; have z1 := hb1.size; simp only [World.size_alloc] at z1)
  obtain ⟨g, o, rfl, hbl, hcx⟩ := HSl.out h0
  have HCX : Hid (∀ k, k < xs.length → w1.cell? ⟨g, o + k, none⟩ = some (.int .i64 (wd xs k))) := hcx
  clear hcx hu
  go_loopw [9, 10] (fun s9 s10 wr => ∃ (i : Nat) (S : Int), s9 = .int .i64 S ∧ s10 = .int .i64 i ∧ i ≤ t.size ∧ Hid (S = ((nums t).take i).sum) ∧ 0 ≤ S ∧ S ≤ 15300 ∧ wr = w1.alloc (.cells #[.int .i64 (wd W p), .int .i64 (wd W (p + 1)), .int .i64 (formAt W p), .slice (some ⟨g, o, none⟩) xs.length c1] 60)) (fun _ s10 _ => t.size - (intOf s10).toNat)
  case atStart => exact ⟨0, 0, rfl, rfl, Nat.zero_le _, by show (0 : Int) = _; simp, by omega, by omega, rfl⟩
  case round =>
    obtain ⟨i, S, rfl, rfl, hi, HS', hS0, hS1, rfl⟩ := hrel
    by_cases hlt : i < t.size
    · have hil : (i : Int) < (t.size : Int) := by omega
      have hcc := nums_at hlt
      have hby := wd_byte (nums_byte t) i
      have hnx : ((nums t).take (i + 1)).sum = S + wd (nums t) i := by rw [HS'.out]; exact sum_take (by rw [HN.out]; exact hlt)
      have hto := sum_to (nums_byte t) (by rw [HN.out]; exact ht) (i + 1)
      have HX : Hid (((nums t).take (i + 1)).sum = S + wd (nums t) i) := hnx
      rw [hnx] at hto
      clear hnx
      generalize wd (nums t) i = x at *
      have hw1 := wrap_id (x := x) (by omega) (by omega)
      have hw2 := wrap_id (x := S + x) (by omega) (by omega)
      go_wp2_with fail
      go_roundw
      case rel => exact ⟨i + 1, S + x, rfl, by first | rfl | simp, by omega, HX.out.symm, hto.1, hto.2, trivial⟩
      case measure => simp [intOf]; omega
    · have e : i = t.size := by omega
      have H : S = (s : Int) := by
        have h1 := HS'.out
        rw [e, ← HN.out, List.take_length] at h1
        rw [h1]; exact HS.out
      subst H e
      clear HS'
      go_wp2_with fail
      have hB1 : Below (w1.heap.size + 1) (w1.alloc (.cells #[.int .i64 (wd W p), .int .i64 (wd W (p + 1)), .int .i64 (formAt W p), .slice (some ⟨g, o, none⟩) xs.length c1] 60)) (w1.alloc (.cells #[.int .i64 (wd W p), .int .i64 (wd W (p + 1)), .int .i64 (formAt W p), .slice (some ⟨g, o, none⟩) xs.length c1] 60)) := Below.refl _ _
      go_loopw [11] (fun s11 wr => ∃ (i : Nat), s11 = .int .i64 i ∧ i ≤ xs.length ∧ Hid (noneTo W p (nums t) (slotsAt W p) s i) ∧ Below (w1.heap.size + 1) (w1.alloc (.cells #[.int .i64 (wd W p), .int .i64 (wd W (p + 1)), .int .i64 (formAt W p), .slice (some ⟨g, o, none⟩) xs.length c1] 60)) wr) (fun s11 _ => xs.length - (intOf s11).toNat)
      case atStart => exact ⟨0, rfl, Nat.zero_le _, noneTo_zero _ _ _ _ _, hB1⟩
      case round =>
        rename_i wr
        obtain ⟨i, rfl, hi', HI, hB⟩ := hrel
        clear hB1
        have hbz := hB.size
        simp only [World.size_alloc] at hbz
        have hbx : wr.cell? ⟨w1.heap.size, 3, none⟩ = some (.slice (some ⟨g, o, none⟩) xs.length c1) := by
          rw [hB.cell (p := ⟨w1.heap.size, 3, none⟩) (by simp)]; simp
        have hW : Below w.heap.size w wr := (below_call hb1).trans ((((Below.refl _ _).alloc (Nat.le_refl _) _).trans (hB.mono (by omega))).mono (below_call hb1).size)
        by_cases hlt : i < xs.length
        · obtain ⟨q, hq⟩ : ∃ q, q = (s + i) % xs.length := ⟨_, rfl⟩
          have hq0 : q < xs.length := by rw [hq]; exact Nat.mod_lt _ h0
          have hm1 : ((s : Int) + (i : Int)) % (xs.length : Int) = (q : Int) := by rw [hq, Int.natCast_emod, Int.natCast_add]
          have hm2 : ((s : Int) + (i : Int)).tmod (xs.length : Int) = (q : Int) := by rw [Int.tmod_eq_emod_of_nonneg (by omega)]; exact hm1
          have HQ : Hid ((s + i) % slotsAt W p = q) := by show (s + i) % slotsAt W p = q; rw [← HL.out, hq]
          clear hq
          have hw1 := wrap_id (x := (s : Int) + (i : Int)) (by omega) (by omega)
          have hw2 := wrap_id (x := (q : Int)) (by omega) (by omega)
          have hz : ((xs.length : Int) == 0) = false := by rw [beq_eq_false_iff_ne]; omega
          have hil : (i : Int) < (xs.length : Int) := by omega
          have hql : (q : Int) < (xs.length : Int) := by omega
          have hcell : wr.cell? ⟨g, o + q, none⟩ = some (.int .i64 (wd xs q)) := by
            rw [hB.cell (p := ⟨g, o + q, none⟩) (by dsimp only; omega), cell_past _ (by exact hbl)]; exact HCX.out q hq0
          have hhx : wr.cell? ⟨w.heap.size, 0, none⟩ = some (.slice (some ⟨b, off, none⟩) W.length cap) := by
            rw [hB.cell (p := ⟨w.heap.size, 0, none⟩) (by dsimp only; omega), cell_past _ (by dsimp only; omega)]; exact box_one hb1
          have hrow : Row wr b off W := ((((hr.alloc _).same hb1).alloc _).below hB (by have := hr.lt; omega))
          have hrowB := HR.out q hq0
          have hhit := HH.out q (by rw [← HL.out]; exact hq0)
          have HYES : Hid (hitB W p (nums t) q = true → sv = (q : Int)) := fun hh => by
            rw [← HV.out, seat_at HST.out (k := i) (by rw [← HL.out]; exact hlt) HI.out (by rw [HQ.out]; exact hh), HQ.out]
            rfl
          have HNO : Hid (hitB W p (nums t) q = false → noneTo W p (nums t) (slotsAt W p) s (i + 1)) := fun hh => noneTo_next HI.out (by rw [HQ.out]; exact hh)
          obtain ⟨x, hx⟩ : ∃ x, wd xs q = x := ⟨_, rfl⟩
          rw [hx] at hcell hrowB hhit
          clear hx
          by_cases hx0 : x = 0
          · have hb0 : (x == 0) = true := by simpa using hx0
            have HE : Hid (sv = (q : Int)) := HYES.out (by rw [hhit, hb0]; rfl)
            clear hhit hrowB hx0
            go_wp2_with fail
            go_ret
            exact ⟨by rw [HE.out]; rfl, hW⟩
          · have hb0 : (x == 0) = false := by simpa using hx0
            obtain ⟨q', ex, eb, k1, k2, k3, k4, k5⟩ := row_text HC.out hrowB hx0
            rw [eb] at hhit
            subst ex
            clear hx0 hrowB eb k3
            have hcmp := str_same k4 t
            have hhit' : hitB W p (nums t) q = (slotsOf W q' == nums t) := by rw [hhit, hb0]; rfl
            have K4 : Hid (∀ c ∈ slotsOf W q', 0 ≤ c ∧ c ≤ 255) := k4
            clear hhit k4
            cases hT : (slotsOf W q' == nums t) with
            | true =>
              have HE : Hid (sv = (q : Int)) := HYES.out (by rw [hhit', hT])
              rw [hT] at hcmp
              clear hhit' hT
              go_wp2_with fail
              go_region_held3 (fun w' => w'.cell? ⟨w.heap.size, 0, none⟩ = some (.slice (some ⟨b, off, none⟩) W.length cap) ∧ w'.cell? ⟨w1.heap.size, 3, none⟩ = some (.slice (some ⟨g, o, none⟩) xs.length c1) ∧ w'.cell? ⟨g, o + q, none⟩ = some (.int .i64 (2 * (q' : Int)))) (go_keep) (first | (go_at_call 28; refine (rtext_any W b off cap q' _ (hrow.same (Below.refl _ _).drew) HU.out hl hcap k1 k2 K4.out).mono ?_; rintro e w2 ⟨rfl, hb2⟩; have hb3 := below_drew hb2; have e1 := (hb3.cell (p := ⟨w.heap.size, 0, none⟩) (by dsimp only; omega)).trans hhx; have e2 := (hb3.cell (p := ⟨w1.heap.size, 3, none⟩) (by dsimp only; omega)).trans hbx; have e3 := (hb3.cell (p := ⟨g, o + q, none⟩) (by dsimp only; omega)).trans hcell))
              go_wp2_with fail
              go_ret
              exact ⟨by rw [HE.out]; rfl, hW.trans (hb3.mono hW.size)⟩
            | false =>
              have HE : Hid (noneTo W p (nums t) (slotsAt W p) s (i + 1)) := HNO.out (by rw [hhit', hT])
              rw [hT] at hcmp
              clear hhit' hT
              go_wp2_with fail
              go_region_held3 (fun w' => w'.cell? ⟨w.heap.size, 0, none⟩ = some (.slice (some ⟨b, off, none⟩) W.length cap) ∧ w'.cell? ⟨w1.heap.size, 3, none⟩ = some (.slice (some ⟨g, o, none⟩) xs.length c1) ∧ w'.cell? ⟨g, o + q, none⟩ = some (.int .i64 (2 * (q' : Int)))) (go_keep) (first | (go_at_call 28; refine (rtext_any W b off cap q' _ (hrow.same (Below.refl _ _).drew) HU.out hl hcap k1 k2 K4.out).mono ?_; rintro e w2 ⟨rfl, hb2⟩; have hb3 := below_drew hb2; have e1 := (hb3.cell (p := ⟨w.heap.size, 0, none⟩) (by dsimp only; omega)).trans hhx; have e2 := (hb3.cell (p := ⟨w1.heap.size, 3, none⟩) (by dsimp only; omega)).trans hbx; have e3 := (hb3.cell (p := ⟨g, o + q, none⟩) (by dsimp only; omega)).trans hcell))
              go_wp2_with fail
              go_roundw
              case rel => exact ⟨i + 1, by first | rfl | simp, by omega, HE, hB.trans (hb3.mono (by omega))⟩
              case measure => simp [intOf]; omega
        · have e : i = xs.length := by omega
          subst e
          have HE : Hid (sv = -1) := by
            show sv = -1
            rw [← HV.out, seat_all HST.out (by rw [← HL.out]; have := HI.out; rw [← HL.out] at this; exact this)]
            rfl
          go_wp2_with fail
          go_ret
          exact ⟨by rw [HE.out]; rfl, hW⟩
end Go.Proofs.Ytmgmbgacdjebgaa
