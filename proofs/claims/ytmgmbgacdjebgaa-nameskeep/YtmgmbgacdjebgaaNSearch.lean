/- names: the search for a text in a table. -/
import Derived.Test.YtmgmbgacdjebgaaNFrom
import Derived.Test.YtmgmbgacdjebgaaRSeat
namespace Go.Proofs.Ytmgmbgacdjebgaa
open Go.RowKit Go.Shelf

attribute [local go_sem] Oper.semAt_some

/-- A table as a value. -/
abbrev tabV (b m cap bm : Nat) (ad : Option Addr) (k c : Nat) : Value := .agg #[sl b m cap, .map (some bm), .slice ad k c]

set_option maxHeartbeats 1000000 in
theorem from_in (n b m cap bm g o k c : Nat) (t : ByteArray) (w : World) :
    CallsIn Fence.wide n Try.prog 43 #[tabV b m cap bm (some ⟨g, o, none⟩) k c, .string t] w fun e w' => e = .returned (.func (.func 57) #[] #[.pointer (some ⟨w.heap.size + 1, 0, none⟩), .pointer (some ⟨w.heap.size, 0, none⟩)]) ∧ w' = (w.alloc (.cells #[sl b m cap, .map (some bm), .slice (some ⟨g, o, none⟩) k c] 48)).alloc (.cells #[.string t] 9) := by
  refine callsIn_of_wp Try.func43 rfl trivial ?_ rfl
  simp only [Try.ntmps43, List.size_toArray, List.length_cons, List.length_nil, Nat.reduceAdd, Nat.reduceSub, Array.replicate_succ, Array.replicate_zero, List.push_toArray, List.append_toArray, List.nil_append, List.cons_append]
  gi_wp2
  go_ret
  exact ⟨rfl, rfl⟩

/-- A slot at which the search stops, among the slots xs. -/
def hitX (W xs T : List Int) (k : Nat) : Bool := wd xs k == 0 || textP W (begP (wd xs k)) == T
theorem hit_x {W : List Int} {p q : Nat} {T : List Int} (hq : q < slotsAt W p) : hitX W (slotsOf W p) T q = hitB W p T q := (hit_slots hq).symm
theorem wd_none {xs : List Int} {k : Nat} (h : ¬ k < xs.length) : wd xs k = 0 := by
  unfold wd; rw [List.getD_eq_getElem?_getD, List.getElem?_eq_none (by omega)]; rfl
theorem keeps_below {W W' : World} (h : Below W.heap.size W W') : KeepsOthers W W' := KeepsOthers.of_grownBy (row := none) (grown_of_below h) (fun j o e => by cases e)

theorem from_stops (n : Nat) (hn : 1 ≤ n) (Bs Bt g o c : Nat) (t : ByteArray) (ht : t.size ≤ 60) (s : Nat) (hs : s ≤ 15300) (HS : Hid ((nums t).sum = (s : Int))) (xs : List Int) (hl0 : 0 < xs.length) (hl60 : xs.length ≤ 60) (w : World)
    (hcs : w.cell? ⟨Bs, 0, none⟩ = some (.string t)) (hct : w.cell? ⟨Bt, 2, none⟩ = some (.slice (some ⟨g, o, none⟩) xs.length c)) (hg : g < w.heap.size) (hx : ∀ k, k < xs.length → w.cell? ⟨g, o + k, none⟩ = some (.int .i64 (wd xs k))) :
    SeqStopsK Fence.wide n Try.prog 57 #[.pointer (some ⟨Bs, 0, none⟩), .pointer (some ⟨Bt, 0, none⟩)] (seatV xs) (Below w.heap.size) (fun ys => ys = upto s xs.length xs.length) (fun pre => ∃ k, k < xs.length ∧ pre = upto s xs.length (k + 1)) xs.length w := fun l J Jx W hW hJ hJx hY h0 => by
  have b1 := World.block_lt_of_cell? w _ hcs
  have b2 := World.block_lt_of_cell? w _ hct
  exact from1_in n hn l Bs Bt w.heap.size g o c t ht s hs HS xs hl0 hl60 J Jx hY W ((hW.cell b1).trans hcs) ((hW.cell b2).trans hct) b2 hg (fun k hk => (hW.cell (p := ⟨g, o + k, none⟩) hg).trans (hx k hk)) h0

set_option maxRecDepth 100000 in
set_option maxHeartbeats 4000000 in
theorem search_any (W : List Int) (b cap bm p g o c : Nat) (t : ByteArray) (w : World) (hv : IsView w b cap bm W) (hc : (checkOf W).1 = 0) (hmem : p ∈ places W 2) (h0 : 0 < (slotsOf W p).length) (hrows : ∀ j, j < (slotsOf W p).length → rowB W (wd (slotsOf W p) j) = true)
    (hg : g < w.heap.size) (hcx : ∀ k, k < (slotsOf W p).length → w.cell? ⟨g, o + k, none⟩ = some (.int .i64 (wd (slotsOf W p) k))) (ht : t.size ≤ 60) (sv : Int) (HV : Hid (seatI (seatP W p (nums t)) = sv)) :
    Calls Try.prog 31 #[tabV b W.length cap bm (some ⟨g, o, none⟩) (slotsOf W p).length c, .string t] w fun e w' => e = .returned (.int .i64 sv) ∧ Below w.heap.size w w' := by
  obtain ⟨hfr, hu⟩ := check_ok hc
  obtain ⟨_, hl, _⟩ := front_out hfr
  have hsl : (slotsOf W p).length = slotsAt W p := slots_length (fits_out (place_fit hu hmem).2.2.1).2.2.2.2
  have h60 : (slotsOf W p).length ≤ 60 := by rw [hsl]; have := (fits_out (place_fit hu hmem).2.2.1).2.2.2.1; unfold slotsAt; omega
  have HL : Hid ((slotsOf W p).length = slotsAt W p) := hsl
  have HC : Hid ((checkOf W).1 = 0) := hc
  have HU : Hid (unfit W 2 = none) := hu
  have HR : Hid (∀ j, j < (slotsOf W p).length → rowB W (wd (slotsOf W p) j) = true) := hrows
  have HH : Hid (∀ q, q < slotsAt W p → hitX W (slotsOf W p) (nums t) q = hitB W p (nums t) q) := fun q hq => hit_x hq
  have HN : Hid ((nums t).length = t.size) := nums_length t
  obtain ⟨s, hs⟩ : ∃ s : Nat, (nums t).sum = (s : Int) := ⟨(nums t).sum.toNat, by have := (sum_small (nums t) (nums_byte t)).1; omega⟩
  have hs1 : s ≤ 15300 := by have := sum_to (nums_byte t) (by rw [HN.out]; exact ht) (nums t).length; rw [List.take_length, hs] at this; omega
  have HS : Hid ((nums t).sum = (s : Int)) := hs
  have HST : Hid ((nums t).sum.toNat = s) := by show (nums t).sum.toNat = s; rw [hs]; simp
  have HCX : Hid (∀ k, k < (slotsOf W p).length → w.cell? ⟨g, o + k, none⟩ = some (.int .i64 (wd (slotsOf W p) k))) := hcx
  clear hsl hc hrows hs hfr hcx hu
  generalize hxs : slotsOf W p = xs at *
  refine (callsIn_wide (n := 3)).1 ?_
  refine callsIn_of_wp_marks Try.func31 rfl trivial ?_ rfl
  simp only [Try.ntmps31, List.size_toArray, List.length_cons, List.length_nil, Nat.reduceAdd, Nat.reduceSub, Array.replicate_succ, Array.replicate_zero, List.push_toArray, List.append_toArray, List.nil_append, List.cons_append]
  gi_wp2_with (refine ⟨trivial, ?_⟩; gi_at_call 43; refine (from_in _ b W.length cap bm g o _ c t _).mono ?_; rintro e w' ⟨rfl, rfl⟩)
  obtain ⟨W0, hW0⟩ : ∃ W0, (((((w.alloc (.cells #[sl b W.length cap, .map (some bm), .slice (some ⟨g, o, none⟩) xs.length c] 48)).alloc (.cells #[.string t] 9)).alloc (.cells #[.int .i64 0] 3)).alloc (.cells #[sl b W.length cap, .map (some bm), .slice (some ⟨g, o, none⟩) xs.length c] 48)).alloc (.cells #[.string t] 9)) = W0 := ⟨_, rfl⟩
  have hs0 : W0.heap.size = w.heap.size + 5 := by rw [← hW0]; simp
  have hB0 : Below w.heap.size w W0 := by rw [← hW0]; exact (((((Below.refl _ w).alloc (Nat.le_refl _) _).alloc (by simp) _).alloc (by simp; omega) _).alloc (by simp; omega) _).alloc (by simp; omega) _
  have c0 : W0.cell? ⟨w.heap.size, 0, none⟩ = some (sl b W.length cap) := by
    rw [← hW0, cell_past _ (by simp <;> omega), cell_past _ (by simp <;> omega), cell_past _ (by simp <;> omega), cell_past _ (by simp), cell_at2 rfl]; rfl
  have c1 : W0.cell? ⟨w.heap.size, 1, none⟩ = some (.map (some bm)) := by
    rw [← hW0, cell_past _ (by simp <;> omega), cell_past _ (by simp <;> omega), cell_past _ (by simp <;> omega), cell_past _ (by simp), cell_at2 rfl]; rfl
  have cT : W0.cell? ⟨w.heap.size + 1, 0, none⟩ = some (.string t) := by
    rw [← hW0, cell_past _ (by simp <;> omega), cell_past _ (by simp <;> omega), cell_past _ (by simp), cell_at2 (by simp)]; rfl
  have cR : W0.cell? ⟨w.heap.size + 1 + 1, 0, none⟩ = some (.int .i64 0) := by
    rw [← hW0, cell_past _ (by simp <;> omega), cell_past _ (by simp), cell_at2 (by simp)]; rfl
  have fR : W0.frozen? ⟨w.heap.size + 1 + 1, 0, none⟩ = false := by
    rw [← hW0, frozen_past _ (by simp <;> omega), frozen_past _ (by simp), frozen_at2 (by simp)]
  have cA : W0.cell? ⟨w.heap.size + 1 + 1 + 1, 2, none⟩ = some (.slice (some ⟨g, o, none⟩) xs.length c) := by
    rw [← hW0, cell_past _ (by simp), cell_at2 (by simp)]; rfl
  have cB : W0.cell? ⟨w.heap.size + 1 + 1 + 1 + 1, 0, none⟩ = some (.string t) := by
    rw [← hW0, cell_at2 (by simp)]; rfl
  rw [hW0]
  clear hW0
  refine wpIn_rangeFunc_ownF (F := Fence.wide) (n := 3) rfl (by omega) (gf := 57) (lb := #[.pointer (some ⟨w.heap.size + 1 + 1 + 1 + 1, 0, none⟩), .pointer (some ⟨w.heap.size + 1 + 1 + 1, 0, none⟩)]) rfl trivial (enters_of Try.func57 (by kernel_rfl) rfl)
    (from_stops 2 (by omega) _ _ g o c t ht s hs1 HS xs h0 h60 W0 cB cA (by omega) (fun k hk => (hB0.cell (p := ⟨g, o + k, none⟩) hg).trans (HCX.out k hk))) belowK_t (belowK_b (Nat.le_refl _)) (Below.refl _ _) (fun _ => rfl)
    (fun pre W' => (∀ k ∈ pre, hitX W xs (nums t) k = false) ∧ Below W0.heap.size W0 W')
    (fun cd pre W' => (cd = .ret ∧ ∃ (pre' : List Nat) (k : Nat), pre = pre' ++ [k] ∧ (∀ j ∈ pre', hitX W xs (nums t) j = false) ∧ hitX W xs (nums t) k = true ∧ W'.cell? ⟨w.heap.size + 1 + 1, 0, none⟩ = some (.int .i64 (k : Int))) ∧ Below w.heap.size w W')
    (OwnFrom.and (ownFrom_pure _ _) (ownFrom_below (Nat.le_refl _) (Nat.le_refl _)))
    (fun cd => OwnFrom.and (Own.from (fun pre A B row hs hg hr => ⟨hs.1, let ⟨p', k, e1, e2, e3, e4⟩ := hs.2; ⟨p', k, e1, e2, e3, cell_kept e4 hg hr⟩⟩) _) (ownFrom_below (Nat.le_refl _) (by omega)))
    ⟨by simp, Below.refl _ _⟩
    (fun x => { tmps := #[tabV b W.length cap bm (some ⟨g, o, none⟩) xs.length c, .string t, .pointer (some ⟨w.heap.size, 0, none⟩), .pointer (some ⟨w.heap.size + 1, 0, none⟩), .pointer (some ⟨w.heap.size + 1 + 1, 0, none⟩), .int .i64 (x : Int), .int .i64 (wd xs x), tabV b W.length cap bm (some ⟨g, o, none⟩) xs.length c, .string t, .func (.func 57) #[] #[.pointer (some ⟨w.heap.size + 1 + 1 + 1 + 1, 0, none⟩), .pointer (some ⟨w.heap.size + 1 + 1 + 1, 0, none⟩)], .int .i64 (x : Int), .int .i64 (wd xs x), undef, undef, undef, undef, undef, undef, undef, undef, undef, undef, undef, undef], defers := [] }) ?assign ?body ?done ?stop
  case assign =>
    intro l x W' K hK
    gi_wp2
    exact hK
  case body =>
    rintro l pre x W' ⟨hp, hB⟩ _
    have hz := hB.size
    have d0 := (hB.cell (p := ⟨w.heap.size, 0, none⟩) (by dsimp only; omega)).trans c0
    have d1 := (hB.cell (p := ⟨w.heap.size, 1, none⟩) (by dsimp only; omega)).trans c1
    have dT := (hB.cell (p := ⟨w.heap.size + 1, 0, none⟩) (by dsimp only; omega)).trans cT
    have dR := (hB.cell (p := ⟨w.heap.size + 1 + 1, 0, none⟩) (by dsimp only; omega)).trans cR
    have gR := (hB.frozen (p := ⟨w.heap.size + 1 + 1, 0, none⟩) (by dsimp only; omega)).trans fR
    have hmx : Try.prog.follows .mixedOrders = true := by kernel_rfl
    have HP : Hid (∀ k ∈ pre, hitX W xs (nums t) k = false) := hp
    have hBW : Below w.heap.size w W' := hB0.trans (hB.mono (by omega))
    clear hp
    have hX : hitX W xs (nums t) x = (wd xs x == 0 || textP W (begP (wd xs x)) == nums t) := rfl
    obtain ⟨y, hy⟩ : ∃ y, wd xs x = y := ⟨_, rfl⟩
    rw [hy] at hX ⊢
    by_cases hy0 : y = 0
    · have hb0 : (y == 0) = true := by simpa using hy0
      have HX : Hid (hitX W xs (nums t) x = true) := by show hitX W xs (nums t) x = true; rw [hX, hb0]; rfl
      clear hX hy0 hy
      gi_wp2
      gi_region_with_o (refine ⟨trivial, ?_⟩)
      all_goals gi_wp2
      all_goals exact ⟨(KeepsOthers.setCell _ _ _).trans (KeepsOthers.drew _), ⟨rfl, pre, x, rfl, HP.out, HX.out, World.cell?_setCell_same' W' _ _ (by rw [dR]; rfl)⟩, (hBW.setCell (p := ⟨w.heap.size + 1 + 1, 0, none⟩) (by dsimp only; omega) _).drew⟩
    · have hb0 : (y == 0) = false := by simpa using hy0
      have hlt : x < xs.length := by
        by_cases h : x < xs.length
        · exact h
        · exact absurd (by rw [← hy]; exact wd_none h) hy0
      have hrw := HR.out x hlt
      rw [hy] at hrw
      obtain ⟨q', ex, eb, k1, k2, k3, k4, k5⟩ := row_text HC.out hrw hy0
      rw [eb, hb0, Bool.false_or] at hX
      subst ex
      clear hy0 hrw eb k3
      have hcmp := str_same k4 t
      have hX' : hitX W xs (nums t) x = (slotsOf W q' == nums t) := hX
      have K4 : Hid (∀ c ∈ slotsOf W q', 0 ≤ c ∧ c ≤ 255) := k4
      have hv' : IsView W' b cap bm W := hv.same hBW
      clear hX k4 hy
      cases hT : (slotsOf W q' == nums t) with
      | true =>
        have HX : Hid (hitX W xs (nums t) x = true) := hX'.trans hT
        rw [hT] at hcmp
        clear hX' hT
        gi_wp2
        gi_region_with_o (first | (refine ⟨trivial, ?_⟩; gi_at_call 35; refine (CallsIn.inRound l (callsIn_wide.2 (vlook_any W b cap bm q' _ hv'.drew HU.out hl k1 k2))).mono ?_; rintro e w2 ⟨⟨v2, rfl, ad2, c2, rfl, hs2⟩, hb2⟩; have hb3 := below_drew hb2; have HS2 := slots_at_own hs2; have z2 := hb3.size; have dT2 := (hb3.cell (p := ⟨w.heap.size + 1, 0, none⟩) (by dsimp only; omega)).trans dT; have dR2 := (hb3.cell (p := ⟨w.heap.size + 1 + 1, 0, none⟩) (by dsimp only; omega)).trans dR; have gR2 := (hb3.frozen (p := ⟨w.heap.size + 1 + 1, 0, none⟩) (by dsimp only; omega)).trans gR) | (refine ⟨trivial, ?_⟩; gi_at_call 37; refine (CallsIn.inRound l (callsIn_wide.2 (htext_any (slotsOf W q') ad2 c2 _ _ _ _ HS2 K4.out k5))).mono ?_; rintro e w3 ⟨rfl, hb4⟩; have hb5 := hb3.trans (hb4.mono z2); have dT3 := (hb5.cell (p := ⟨w.heap.size + 1, 0, none⟩) (by dsimp only; omega)).trans dT; have dR3 := (hb5.cell (p := ⟨w.heap.size + 1 + 1, 0, none⟩) (by dsimp only; omega)).trans dR; have gR3 := (hb5.frozen (p := ⟨w.heap.size + 1 + 1, 0, none⟩) (by dsimp only; omega)).trans gR))
        all_goals gi_wp2
        all_goals exact ⟨(keeps_below hb5).trans (KeepsOthers.setCell _ _ _), ⟨rfl, pre, x, rfl, HP.out, HX.out, World.cell?_setCell_same' w3 _ _ (by rw [dR3]; rfl)⟩, ((hBW.trans (hb5.mono (by omega))).setCell (p := ⟨w.heap.size + 1 + 1, 0, none⟩) (by dsimp only; omega) _)⟩
      | false =>
        have HX : Hid (hitX W xs (nums t) x = false) := hX'.trans hT
        rw [hT] at hcmp
        clear hX' hT
        gi_wp2
        gi_region_with_o (first | (refine ⟨trivial, ?_⟩; gi_at_call 35; refine (CallsIn.inRound l (callsIn_wide.2 (vlook_any W b cap bm q' _ hv'.drew HU.out hl k1 k2))).mono ?_; rintro e w2 ⟨⟨v2, rfl, ad2, c2, rfl, hs2⟩, hb2⟩; have hb3 := below_drew hb2; have HS2 := slots_at_own hs2; have z2 := hb3.size; have dT2 := (hb3.cell (p := ⟨w.heap.size + 1, 0, none⟩) (by dsimp only; omega)).trans dT) | (refine ⟨trivial, ?_⟩; gi_at_call 37; refine (CallsIn.inRound l (callsIn_wide.2 (htext_any (slotsOf W q') ad2 c2 _ _ _ _ HS2 K4.out k5))).mono ?_; rintro e w3 ⟨rfl, hb4⟩; have hb5 := hb3.trans (hb4.mono z2); have dT3 := (hb5.cell (p := ⟨w.heap.size + 1, 0, none⟩) (by dsimp only; omega)).trans dT))
        all_goals gi_wp2
        all_goals exact ⟨keeps_below hb5, hb5.mono hz, fun k hk => (List.mem_append.1 hk).elim (HP.out k) (fun e => by simp at e; subst e; exact HX.out), hB.trans (hb5.mono hz)⟩
  case done =>
    rintro D ys W' hD rfl ⟨hp, hB⟩ hK
    have hz := hB.size
    have dR := (hB.cell (p := ⟨w.heap.size + 1 + 1, 0, none⟩) (by dsimp only; omega)).trans cR
    have gR := (hB.frozen (p := ⟨w.heap.size + 1 + 1, 0, none⟩) (by dsimp only; omega)).trans fR
    have hBW : Below w.heap.size w W' := hB0.trans (hB.mono (by omega))
    have HE : Hid (sv = -1) := by
      show sv = -1
      rw [← HV.out, seat_all HST.out]
      · rfl
      · intro j hj
        have hjn : j < xs.length := by rw [HL.out]; exact hj
        have hm := hp _ (upto_mem (s := s) (n := xs.length) hjn)
        rw [HH.out _ (by rw [← HL.out]; exact Nat.mod_lt _ h0), HL.out] at hm
        exact hm
    clear hp
    gi_wp2
    have hK' := (KeepsOthers.setCell W' ⟨w.heap.size + 1 + 1, 0, none⟩ (.int .i64 (-1))).same D _ hK rfl
    refine ⟨by simp, .inl ⟨_, _, rfl, run_takeDeferred hK', ?_⟩⟩
    have hc5 := cell_kept (World.cell?_setCell_same' W' ⟨w.heap.size + 1 + 1, 0, none⟩ (.int .i64 (-1)) (by rw [dR]; rfl)) (grownBy_putObj' _ D (.deferred none)) (fun r e => by cases e; exact ⟨_, hK', rfl⟩)
    refine ⟨.int .i64 (-1), ?_, by rw [HE.out], (hBW.setCell (p := ⟨w.heap.size + 1 + 1, 0, none⟩) (by dsimp only; omega) _).trans (belowK_b (w := w) (Nat.le_refl _) _ D _ _ (by omega) hK' rfl rfl)⟩
    simp [results, Try.f31, go_sem, hc5]
  case stop =>
    rintro D cd pre W' hD ⟨m, hm, hpre⟩ ⟨⟨rfl, pre', k, e1, e2, e3, e4⟩, hBW⟩ hK
    have HE : Hid (sv = (k : Int)) := by
      show sv = (k : Int)
      rw [upto_next] at hpre
      rw [hpre] at e1
      have hl1 := List.append_inj' e1 rfl
      obtain ⟨ep, ek⟩ := hl1
      simp only [List.cons.injEq, and_true] at ek
      have hkn : k < slotsAt W p := by rw [← ek, ← HL.out]; exact Nat.mod_lt _ h0
      rw [HH.out k hkn] at e3
      rw [← HV.out, seat_at HST.out (k := m) (by rw [← HL.out]; exact hm) ?_ (by rw [← HL.out, ek]; exact e3), ← HL.out, ek]
      · rfl
      · intro j hj
        have hm' := e2 ((s + j) % xs.length) (by rw [← ep]; exact upto_mem hj)
        rw [HH.out _ (by rw [← HL.out]; exact Nat.mod_lt _ h0), HL.out] at hm'
        exact hm'
    clear e1 e2 e3 hpre
    gi_wp2
    refine ⟨by simp, .inl ⟨_, _, rfl, run_takeDeferred hK, ?_⟩⟩
    have hc5 := cell_kept e4 (grownBy_putObj' _ D (.deferred none)) (fun r e => by cases e; exact ⟨_, hK, rfl⟩)
    refine ⟨.int .i64 (k : Int), ?_, by rw [HE.out], hBW.trans (belowK_b (w := w) (Nat.le_refl _) W' D _ _ (by omega) hK rfl rfl)⟩
    simp [results, Try.f31, go_sem, hc5]
end Go.Proofs.Ytmgmbgacdjebgaa
