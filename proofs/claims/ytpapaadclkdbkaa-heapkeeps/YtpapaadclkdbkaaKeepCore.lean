/- HeapKeeps where Put puts: the walk. -/
import Derived.Test.YtpapaadclkdbkaaLawKeeps0
namespace Go.Proofs.Ytpapaadclkdbkaa.heapKeeps
open Go.RowKit

/-- What Put says: n words, which are W. -/
def PutEnd (n : Nat) (W : List Int) (e : Ending) (w : World) : Prop := ∃ g c, e = .returned (.tuple #[.agg #[sl g n c], .int .i64 0]) ∧ Row w g 0 W ∧ n ≤ c ∧ c ≤ maxLen
/-- What New says. -/
def NewEnd (n : Nat) (W : List Int) (o : Int) (e : Ending) (w : World) : Prop := ∃ g c, e = .returned (.tuple #[.agg #[sl g n c], .int .i64 o, .int .i64 0]) ∧ Row w g 0 W ∧ n ≤ c ∧ c ≤ maxLen
/-- What Look says. -/
def LookEnd (cl ha fo : Int) (xs : List Int) (e : Ending) (w : World) : Prop := ∃ b off c, e = .returned (.tuple #[thingV cl ha fo (.slice (some ⟨b, off, none⟩) xs.length c), .int .i64 0]) ∧ Row w b off xs
/-- Where the words lie that came in. -/
abbrev From (ad : Option Addr) (W : List Int) (w : World) : Prop := 2 ≤ W.length → ∃ b off, ad = some ⟨b, off, none⟩ ∧ Row w b off W

theorem quiet_more {P : Program} {f : FuncId} {args : Array Value} {w : World} {n m : Nat} {v : Value}
    (h : Calls P f args (w.drewN (n + m)) fun e w' => e = .returned v ∧ ∃ k, w' = (w.drewN (n + m)).drewN k) : Calls P f args (w.drewN (n + m)) fun e w'' => e = .returned v ∧ ∃ m', w'' = w.drewN (n + m') :=
  h.mono fun _ _ ⟨he, k, hm⟩ => ⟨he, m + k, by rw [hm, World.drewN_drewN, Nat.add_assoc]⟩

theorem quiet_one {P : Program} {f : FuncId} {args : Array Value} {w : World} {m : Nat} {v : Value}
    (h : Calls P f args (w.drewN m) fun e w' => e = .returned v ∧ ∃ k, w' = (w.drewN m).drewN k) : Calls P f args (w.drewN m) fun e w'' => e = .returned v ∧ ∃ m', w'' = w.drewN m' :=
  h.mono fun _ _ ⟨he, k, hm⟩ => ⟨he, m + k, by rw [hm, World.drewN_drewN]⟩

theorem box_four {w w' : World} {x0 x1 x2 x3 : Value} {t : TypeId} (hb : Below (w.alloc (.cells #[x0, x1, x2, x3] t)).heap.size (w.alloc (.cells #[x0, x1, x2, x3] t)) w') :
    (w'.cell? ⟨w.heap.size, 0, none⟩ = some x0 ∧ w'.cell? ⟨w.heap.size, 1, none⟩ = some x1 ∧ w'.cell? ⟨w.heap.size, 2, none⟩ = some x2 ∧ w'.cell? ⟨w.heap.size, 3, none⟩ = some x3) ∧ (w'.frozen? ⟨w.heap.size, 0, none⟩ = false ∧ w'.frozen? ⟨w.heap.size, 1, none⟩ = false ∧ w'.frozen? ⟨w.heap.size, 2, none⟩ = false ∧ w'.frozen? ⟨w.heap.size, 3, none⟩ = false) := by
  have A : ∀ j, w'.cell? ⟨w.heap.size, j, none⟩ = #[x0, x1, x2, x3][j]? := fun j => by
    rw [hb.cell (p := ⟨w.heap.size, j, none⟩) (by simp)]; exact cell_at2 rfl
  have B : ∀ j, w'.frozen? ⟨w.heap.size, j, none⟩ = false := fun j => by
    rw [hb.frozen (p := ⟨w.heap.size, j, none⟩) (by simp)]; exact frozen_at2 rfl
  exact ⟨⟨A 0, A 1, A 2, A 3⟩, B 0, B 1, B 2, B 3⟩

theorem wd_drop (xs : List Int) (n j : Nat) : wd (xs.drop n) j = wd xs (n + j) := by
  unfold wd; rw [List.getD_eq_getElem?_getD, List.getD_eq_getElem?_getD, List.getElem?_drop]
theorem below_drewN_in {B : Nat} {w w' : World} {n : Nat} (h : Below B (w.drewN n) w') : Below B w w' := ⟨h.1, h.2, h.3, h.4, h.5⟩

set_option maxHeartbeats 4000000 in
set_option maxRecDepth 100000 in
theorem core (W W' M : List Int) (ad : Option Addr) (cap p k : Nat) (what c1 h1 f1 h2 : Int) (xs : List Int) (w : World)
    (hl6 : 6 ≤ W.length) (hl : W.length ≤ 2000) (hlen : W'.length = W.length) (hsame : ∀ i, i ≠ p + 3 + k → wd W' i = wd W i) (hr : From ad W w)
    (hput : ∀ w, From ad W w → Calls Try.prog 14 #[heapV ad W.length cap, .int .i64 (2 * (p : Int)), .int .i64 k, .int .i64 what] w fun e w' => PutEnd W.length W' e w' ∧ Below w.heap.size w w')
    (hlook : ∀ w b c, Row w b 0 W' → Calls Try.prog 13 #[heapV (some ⟨b, 0, none⟩) W.length c, .int .i64 (2 * (p : Int))] w fun e w' => LookEnd c1 h1 f1 xs e w' ∧ Below w.heap.size w w')
    (hk : k < xs.length) (hwhat : wd xs k = what)
    (hnew : (∀ w b c, Row w b 0 W' → Calls Try.prog 9 #[heapV (some ⟨b, 0, none⟩) W.length c, .int .i64 (2 * (p : Int)), .int .i64 2, .int .i64 2] w fun e w' => e = newErr 6 ∧ Below w.heap.size w w') ∨
      ((∀ w b c, Row w b 0 W' → Calls Try.prog 9 #[heapV (some ⟨b, 0, none⟩) W.length c, .int .i64 (2 * (p : Int)), .int .i64 2, .int .i64 2] w fun e w' => NewEnd (W.length + 5) M (2 * (W.length : Int)) e w' ∧ Below w.heap.size w w') ∧
       (∀ w b c, Row w b 0 M → Calls Try.prog 13 #[heapV (some ⟨b, 0, none⟩) (W.length + 5) c, .int .i64 (2 * (W.length : Int))] w fun e w' => LookEnd (2 * (p : Int)) h2 2 [0, 0] e w' ∧ Below w.heap.size w w') ∧
       M.length = W.length + 5 ∧ ∀ i, 2 ≤ i → i < W.length → wd M i = wd W' i)) :
    Calls Try.prog 5 #[.agg #[.slice ad W.length cap], .int .i64 (2 * (p : Int)), .int .i64 k, .int .i64 what] w fun e w' => e = .returned (.bool true) ∧ Below w.heap.size w w' := by
  have HR : Hid (From ad W w) := hr
  have HP : Hid (∀ w, From ad W w → Calls Try.prog 14 #[heapV ad W.length cap, .int .i64 (2 * (p : Int)), .int .i64 k, .int .i64 what] w fun e w' => PutEnd W.length W' e w' ∧ Below w.heap.size w w') := hput
  have HL : Hid (∀ w b c, Row w b 0 W' → Calls Try.prog 13 #[heapV (some ⟨b, 0, none⟩) W.length c, .int .i64 (2 * (p : Int))] w fun e w' => LookEnd c1 h1 f1 xs e w' ∧ Below w.heap.size w w') := hlook
  have HN : Hid _ := hnew
  have HS : Hid (∀ i, i ≠ p + 3 + k → wd W' i = wd W i) := hsame
  have HLEN : Hid (W'.length = W.length) := hlen
  have hik : (k : Int) < (xs.length : Int) := by omega
  clear hr hput hlook hnew hsame hlen
  go_enter Try.func5, Try.ntmps5
  go_wp2_with (first
    | (go_at_call 9; refine (tiny_new _ _ _ (tiny_row _ _ _)).mono ?_; rintro e w1 ⟨⟨g1, d1, rfl⟩, hb1⟩; obtain ⟨c0, hz⟩ := box_front hb1; have HR1 : Hid (From ad W w1) := heap_below HR.out (below2 hb1))
    | (go_at_call 14; refine (HP.out _ (reads1 HR1.out)).mono ?_; rintro e w2 ⟨⟨g2, d2, rfl, hr2, hd2, hd2'⟩, hb2⟩; have k2 := keep hb2 c0; have z2 := grew hb2; have z02 : w.heap.size < w2.heap.size := (by omega); have HR2 : Hid (From ad W w2) := heap_below (reads1 HR1.out) hb2; have HW2 : Hid (Row w2 g2 0 W') := hr2; have hg2 := hr2.lt; clear hr2)
    | (go_at_call 13; refine (HL.out _ _ _ (HW2.out.alloc _)).mono ?_; rintro e w3 ⟨⟨b3, off3, d3, rfl, hr3⟩, hb3⟩; have k3 := keep hb3 k2; have kk3 := box_one hb3; have z3 := grew hb3; have z03 : w.heap.size < w3.heap.size := (by omega); have z23 : w2.heap.size < w3.heap.size := (by omega); have HR3 : Hid (From ad W w3) := heap_below (reads1 HR2.out) hb3; have HW3 : Hid (Row w3 g2 0 W') := HW2.out.same (below_call hb3); have hg3 : g2 < w3.heap.size := (by omega); have hbb3 := hr3.lt; have hcs := hr3.cell k hk; rw [hwhat] at hcs; clear hr3))
  obtain ⟨b0, off0, rfl, hrW⟩ := HR3.out (by omega)
  have hb0 := hrW.lt
  go_loopw [14, 15] (fun s14 s15 wr => ∃ (c i n : Nat), s14 = .int .i64 c ∧ s15 = .int .i64 i ∧ i ≤ W.length ∧ c ≤ 1 ∧ (i ≤ p + 3 + k → c = 0) ∧ wr = (w3.alloc (.cells #[.int .i64 c1, .int .i64 h1, .int .i64 f1, .slice (some ⟨b3, off3, none⟩) xs.length d3] 34)).drewN n) (fun _ s15 _ => W.length - (intOf s15).toNat)
  case atStart => exact ⟨0, 0, 0, rfl, rfl, Nat.zero_le _, by omega, fun _ => rfl, rfl⟩
  case round =>
    obtain ⟨c, i, n, rfl, rfl, hi, hc, hci, rfl⟩ := hrel
    by_cases hlt : i < W.length
    · have hcx := HW3.out.cell i (by rw [HLEN.out]; exact hlt)
      rw [Nat.zero_add] at hcx
      have hcy := hrW.cell i hlt
      have hii : (i : Int) < (W.length : Int) := by omega
      have HrW : Hid (Row w3 b0 off0 W) := hrW
      clear hrW
      by_cases he : wd W' i = wd W i
      · have heb : (wd W' i != wd W i) = false := by simp [he]
        clear he
        go_wp2_with fail
        go_quiet (fail)
        go_wp2_with fail
        go_roundw
        case rel => exact ⟨c, i + 1, _, rfl, by first | rfl | simp, by omega, hc, fun h => hci (by omega), rfl⟩
        case measure => simp [intOf]; omega
      · have heb : (wd W' i != wd W i) = true := by simpa using he
        have hip : Hid (i = p + 3 + k) := Classical.byContradiction fun hne => he (HS.out i hne)
        have hc0 : Hid (c = 0) := hci (by have := hip.out; omega)
        clear he
        go_wp2_with fail
        go_quiet (fail)
        go_wp2_with fail
        go_roundw
        case rel => exact ⟨c + 1, i + 1, _, by first | rfl | simp, by first | rfl | simp, by omega, by have := hc0.out; omega, fun h => by have := hip.out; omega, rfl⟩
        case measure => simp [intOf]; omega
    · have hcc : (c : Int) ≤ 1 := by omega
      have hB3 : Below w.heap.size w w3 := (below2 hb1).trans (((below_call hb2).trans ((below_call hb3).mono (below_call hb2).size)).mono (below2 hb1).size)
      rcases HN.out with hfull | ⟨hgood, hlook2, hML, hM⟩
      · have HF : Hid _ := hfull
        clear hfull
        go_wp2_with (go_at_call 9; refine (HF.out _ _ _ (HW3.out.same (below_drewN ((Below.refl _ _).alloc (Nat.le_refl _) _) n))).mono ?_; rintro e w4 ⟨rfl, hb4⟩)
        go_ret
        have hB4 : Below w3.heap.size w3 w4 := (below_drewN ((Below.refl _ _).alloc (Nat.le_refl _) _) n).trans (hb4.mono (by simp [World.drewN]))
        refine ⟨ret_bool (by simp), ?_⟩
        exact (hB3.trans (hB4.mono hB3.size)).alloc (by have := hB3.size; have := hB4.size; omega) _
      · have HF : Hid _ := hgood
        have HK : Hid _ := hlook2
        clear hgood hlook2
        have hsz : (W.length : Int) ≤ (W.length : Int) + 5 := by omega
        unfold maxLen at hd2'
        go_wp2_with (go_at_call 9; refine (HF.out _ _ _ (HW3.out.same (below_drewN ((Below.refl _ _).alloc (Nat.le_refl _) _) n))).mono ?_; rintro e w4 ⟨⟨g4, d4, rfl, hr4, hd4, hd4'⟩, hb4⟩; have hB4 : Below w3.heap.size w3 w4 := (below_drewN ((Below.refl _ _).alloc (Nat.le_refl _) _) n).trans (hb4.mono (by simp [World.drewN])); have k4 : w4.cell? ⟨w.heap.size, 0, none⟩ = _ := (hB4.cell z03).trans k3; have kk4 : w4.cell? ⟨w2.heap.size, 0, none⟩ = _ := (hB4.cell z23).trans kk3; obtain ⟨⟨t0, t1, t2, t3⟩, ⟨q0, q1, q2, q3⟩⟩ := box_four (below_drewN_in hb4); have hg4 := hr4.lt; have z4 := hB4.size; have z24 : w2.heap.size < w4.heap.size := (by omega); have z34 : w3.heap.size < w4.heap.size := (by have := (below_drewN_in hb4).size; simp at this; omega); have HR4 : Hid (Row w4 g4 0 M) := hr4; have HW4 : Hid (Row w4 g2 0 W') := HW3.out.same hB4; clear hr4)
        have hcx : ∀ j, j < (W'.drop 2).length → w4.cell? ⟨g4, 2 + j, none⟩ = some (.int .i64 (wd (W'.drop 2) j)) := fun j hj => by
          rw [List.length_drop, HLEN.out] at hj
          have := HR4.out.cell (2 + j) (by omega)
          rw [Nat.zero_add, hM (2 + j) (by omega) (by omega)] at this
          rw [this, wd_drop]
        have hcy : ∀ j, j < (W'.drop 2).length → w4.cell? ⟨g2, 2 + j, none⟩ = some (.int .i64 (wd (W'.drop 2) j)) := fun j hj => by
          rw [List.length_drop, HLEN.out] at hj
          have := HW4.out.cell (2 + j) (by rw [HLEN.out]; omega)
          rw [Nat.zero_add] at this
          rw [this, wd_drop]
        have hg24 : g2 < w4.heap.size := by omega
        have hdl : (W'.drop 2).length = W.length - 2 := by rw [List.length_drop, HLEN.out]
        have HI : Hid (∀ (cx cy m : Nat), Calls Try.prog 18 #[.slice (some ⟨g4, 2, none⟩) (W.length - 2) cx, .slice (some ⟨g2, 2, none⟩) (W.length - 2) cy] ((w4.alloc (.cells #[.slice (some ⟨g4, 0, none⟩) (W.length + 5) d4] 24)).drewN m) fun e w' => e = .returned (.bool true) ∧ ∃ k, w' = ((w4.alloc (.cells #[.slice (some ⟨g4, 0, none⟩) (W.length + 5) d4] 24)).drewN m).drewN k) := fun cx cy m => by
          have := kints_same (W'.drop 2) (W'.drop 2) g4 2 cx g2 2 cy ((w4.alloc (.cells #[.slice (some ⟨g4, 0, none⟩) (W.length + 5) d4] 24)).drewN m) rfl (by omega)
            (fun j hj => by rw [World.cell?_drewN, cell_past _ (by exact hg4)]; exact hcx j hj) (fun j hj => by rw [World.cell?_drewN, cell_past _ (by exact hg24)]; exact hcy j hj)
          rw [hdl] at this
          simpa using this
        clear hcx hcy
        have h2 : (2 : Int) ≤ (W.length : Int) := by omega
        have hWL : ((W.length : Int) - 2).toNat = W.length - 2 := by omega
        have hWn : ((W.length : Int)).toNat = W.length := by omega
        have hd4i : (W.length : Int) ≤ (d4 : Int) := by omega
        have hd2i : (W.length : Int) ≤ (d2 : Int) := by omega
        go_quiet ((go_at_call 18; exact quiet_one (HI.out _ _ _)))
        go_wp2_with (go_at_call 13; refine (HK.out _ _ _ (HR4.out.same (below_drewN ((Below.refl _ _).alloc (Nat.le_refl _) _) nq))).mono ?_; rintro e w5 ⟨⟨b5, off5, d5, rfl, hr5⟩, hb5⟩; have hB5 : Below w4.heap.size w4 w5 := (below_drewN ((Below.refl _ _).alloc (Nat.le_refl _) _) nq).trans (hb5.mono (by simp [World.drewN])); have r0 := (hB5.cell (p := ⟨w3.heap.size, 0, none⟩) z34).trans t0; have r1 := (hB5.cell (p := ⟨w3.heap.size, 1, none⟩) z34).trans t1; have r2 := (hB5.cell (p := ⟨w3.heap.size, 2, none⟩) z34).trans t2; have r3 := (hB5.cell (p := ⟨w3.heap.size, 3, none⟩) z34).trans t3; have y0 := (hB5.frozen (p := ⟨w3.heap.size, 0, none⟩) z34).trans q0; have y1 := (hB5.frozen (p := ⟨w3.heap.size, 1, none⟩) z34).trans q1; have y2 := (hB5.frozen (p := ⟨w3.heap.size, 2, none⟩) z34).trans q2; have y3 := (hB5.frozen (p := ⟨w3.heap.size, 3, none⟩) z34).trans q3; clear t0 t1 t2 t3 q0 q1 q2 q3)
        go_ret
        have hB45 := hB3.trans ((hB4.trans (hB5.mono hB4.size)).mono hB3.size)
        refine ⟨ret_bool (by simp), ?_⟩
        have zz : w.heap.size ≤ w3.heap.size := by omega
        exact (((hB45.setCell (p := ⟨w3.heap.size, 0, none⟩) zz _).setCell (p := ⟨w3.heap.size, 1, none⟩) zz _).setCell (p := ⟨w3.heap.size, 2, none⟩) zz _).setCell (p := ⟨w3.heap.size, 3, none⟩) zz _

end Go.Proofs.Ytpapaadclkdbkaa.heapKeeps
