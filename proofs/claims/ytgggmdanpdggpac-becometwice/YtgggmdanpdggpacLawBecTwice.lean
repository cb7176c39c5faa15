/- BecomeTwice holds for every heap, all roots and lists that can come in, with no condition: both ways done twice is nothing; behind one way nobody is who was, but who others are. -/
import Derived.Test.YtgggmdanpdggpacBecomeMore
import Derived.Test.YtgggmdanpdggpacKeepInts
import Derived.BigQuiet
namespace Go.Proofs.Ytgggmdanpdggpac.becomeTwice
open Go.ChangeShapes Go.WideShapes Go.ChangeAt Go.RowKit Go.Joins Go.Deep

theorem cells_drewN {w : World} {g : Nat} {L : List Int} (h : ∀ k, k < L.length → w.cell? ⟨g, k, none⟩ = some (.int .i64 (wd L k))) (n : Nat) : Hid (∀ k, k < L.length → (w.drewN n).cell? ⟨g, k, none⟩ = some (.int .i64 (wd L k))) := fun k hk => by simpa using h k hk

/-! The example. -/
abbrev W0 : List Int := [0, 3, 0, 1, 0, 0, 2, 4, 4]
theorem unfit0 : unfit W0 2 = none := by
  rw [unfit_in (by decide) (by decide), show nextAt W0 2 = 5 by decide, unfit_in (by decide) (by decide), show nextAt W0 5 = 9 by decide, unfit_end (by decide)]
theorem places0 : places W0 2 = [2, 5] := by
  rw [places_in (by decide), show nextAt W0 2 = 5 by decide, places_in (by decide), show nextAt W0 5 = 9 by decide, places_end (by decide)]
theorem thing10 : thingB W0 10 = true := by unfold thingB beginB; rw [places0]; decide
theorem thing4 : thingB W0 4 = true := by unfold thingB beginB; rw [places0]; decide
theorem nil0 : nilB W0 0 = true := by unfold nilB; decide
theorem stand4 : standB W0 0 4 = true := by unfold standB nilB; rw [thing4]; decide
theorem check0 : checkOf W0 = (0, 0) := by
  rw [check_things (by decide) unfit0, places0]
  refine fault_mk _ _ (fun p hp => ?_) (by decide)
  rcases List.mem_cons.1 hp with rfl | hp
  · exact ⟨nil0, rfl, by simp, by decide, by decide⟩
  · rw [List.mem_singleton] at hp; subst hp
    refine ⟨nil0, ?_, by simp, by decide, by decide⟩
    rw [bad_none]
    intro j hj
    have hj1 : j < 1 := hj
    have : j = 0 := by omega
    subst this; exact stand4
theorem ok0 : ∀ x ∈ [(10 : Int), 4], okRef W0 x := fun x hx => by
  have : thingB W0 x = true := by
    rcases List.mem_cons.1 hx with rfl | hx
    · exact thing10
    · rw [List.mem_singleton] at hx; subst hx; exact thing4
  unfold okRef nilB; rw [this]; simp
theorem fault0 : (becFault W0 [10, 4] [4] [10] true).1 = 0 := by
  unfold becFault
  rw [rootsOf_ok (by rw [check0]) ok0, if_pos rfl]
  have h1 : ∀ j, j < [(4 : Int)].length → oddAt W0 [4] [10] j = false := fun j hj => by
    have : j = 0 := by simp at hj; omega
    subst this
    show (!(thingB W0 4 && thingB W0 10)) = false
    rw [thing4, thing10]; rfl
  rw [wrong_none (W := W0) (F := [4]) (T := [10]) rfl h1 (fun j hj => by have : j = 0 := (by simp at hj; omega); subst this; decide)]
theorem new0 : renW (otherP true ([4].zip [10])) W0 = [0, 3, 0, 1, 0, 0, 2, 4, 10] := by
  unfold renW; rw [places0]; decide
theorem roots0 : [(10 : Int), 4].map (otherP true ([4].zip [10])) = [4, 10] := by decide
/-- What Two answers of the example. -/
def Two0 (e : Ending) (w : World) : Prop := ∃ g c g' c', e = .returned (.tuple #[.agg #[sl g 9 c], sl g' 2 c', .agg #[.int .i64 0, .int .i64 0]]) ∧ w.cell? ⟨g, 8, none⟩ = some (.int .i64 10) ∧ w.cell? ⟨g', 0, none⟩ = some (.int .i64 4) ∧ w.cell? ⟨g', 1, none⟩ = some (.int .i64 10) ∧ g < w.heap.size ∧ g' < w.heap.size
theorem two0 (b1 b2 b3 b4 : Nat) (w : World) (h1 : Row w b1 0 W0) (h2 : Row w b2 0 [4]) (h3 : Row w b3 0 [10]) (h4 : Row w b4 0 [10, 4]) :
    Calls Try.prog 4 #[heapV (some ⟨b1, 0, none⟩) 9 9, .slice (some ⟨b2, 0, none⟩) 1 1, .slice (some ⟨b3, 0, none⟩) 1 1, .slice (some ⟨b4, 0, none⟩) 2 2] w fun e w' => Two0 e w' ∧ Below w.heap.size w w' := by
  refine (two_yes W0 [4] [10] [10, 4] (some ⟨b1, 0, none⟩) (some ⟨b2, 0, none⟩) (some ⟨b3, 0, none⟩) (some ⟨b4, 0, none⟩) 9 1 1 2 w (fun _ => ⟨b1, 0, rfl, h1⟩) (fun _ => ⟨b2, 0, rfl, h2⟩) (fun _ => ⟨b3, 0, rfl, h3⟩) (fun _ => ⟨b4, 0, rfl, h4⟩) (by decide) (by decide) fault0).mono fun e w' hp => ⟨?_, hp.2⟩
  obtain ⟨g, c, g', c', he, _, _, hK, hL⟩ := hp.1
  rw [new0] at he hK
  rw [roots0] at he hL
  exact ⟨g, c, g', c', he, own_cell (W := [0, 3, 0, 1, 0, 0, 2, 4, 10]) hK (by decide), own_cell (W := [4, 10]) hL (by decide), own_cell (W := [4, 10]) hL (by decide), own_lt hK, own_lt hL⟩
/-- The world in which the example is asked. -/
abbrev ex (w : World) (o : Obj) : World := ((((w.alloc o).alloc (.cells #[.int .i64 0, .int .i64 3, .int .i64 0, .int .i64 1, .int .i64 0, .int .i64 0, .int .i64 2, .int .i64 4, .int .i64 4] 3)).alloc (.cells #[.int .i64 4] 3)).alloc (.cells #[.int .i64 10] 3)).alloc (.cells #[.int .i64 10, .int .i64 4] 3)
theorem ex1 (w : World) (o : Obj) : Row (ex w o) (w.heap.size + 1) 0 W0 := by
  have := lit_row (w.alloc o) W0 #[.int .i64 0, .int .i64 3, .int .i64 0, .int .i64 1, .int .i64 0, .int .i64 0, .int .i64 2, .int .i64 4, .int .i64 4] rfl (wf_mk (by decide))
  rw [show (w.alloc o).heap.size = w.heap.size + 1 by simp] at this
  exact ((this.alloc _).alloc _).alloc _
theorem ex2 (w : World) (o : Obj) : Row (ex w o) (w.heap.size + 1 + 1) 0 [4] := by
  have := lit_row ((w.alloc o).alloc (.cells #[.int .i64 0, .int .i64 3, .int .i64 0, .int .i64 1, .int .i64 0, .int .i64 0, .int .i64 2, .int .i64 4, .int .i64 4] 3)) [4] #[.int .i64 4] rfl (wf_mk (by decide))
  rw [show ((w.alloc o).alloc (.cells #[.int .i64 0, .int .i64 3, .int .i64 0, .int .i64 1, .int .i64 0, .int .i64 0, .int .i64 2, .int .i64 4, .int .i64 4] 3)).heap.size = w.heap.size + 1 + 1 by simp] at this
  exact (this.alloc _).alloc _
theorem ex3 (w : World) (o : Obj) : Row (ex w o) (w.heap.size + 1 + 1 + 1) 0 [10] := by
  have := lit_row (((w.alloc o).alloc (.cells #[.int .i64 0, .int .i64 3, .int .i64 0, .int .i64 1, .int .i64 0, .int .i64 0, .int .i64 2, .int .i64 4, .int .i64 4] 3)).alloc (.cells #[.int .i64 4] 3)) [10] #[.int .i64 10] rfl (wf_mk (by decide))
  rw [show (((w.alloc o).alloc (.cells #[.int .i64 0, .int .i64 3, .int .i64 0, .int .i64 1, .int .i64 0, .int .i64 0, .int .i64 2, .int .i64 4, .int .i64 4] 3)).alloc (.cells #[.int .i64 4] 3)).heap.size = w.heap.size + 1 + 1 + 1 by simp] at this
  exact this.alloc _
theorem ex4 (w : World) (o : Obj) : Row (ex w o) (w.heap.size + 1 + 1 + 1 + 1) 0 [10, 4] := by
  have := lit_row ((((w.alloc o).alloc (.cells #[.int .i64 0, .int .i64 3, .int .i64 0, .int .i64 1, .int .i64 0, .int .i64 0, .int .i64 2, .int .i64 4, .int .i64 4] 3)).alloc (.cells #[.int .i64 4] 3)).alloc (.cells #[.int .i64 10] 3)) [10, 4] #[.int .i64 10, .int .i64 4] rfl (wf_mk (by decide))
  rw [show ((((w.alloc o).alloc (.cells #[.int .i64 0, .int .i64 3, .int .i64 0, .int .i64 1, .int .i64 0, .int .i64 0, .int .i64 2, .int .i64 4, .int .i64 4] 3)).alloc (.cells #[.int .i64 4] 3)).alloc (.cells #[.int .i64 10] 3)).heap.size = w.heap.size + 1 + 1 + 1 + 1 by simp] at this
  exact this
theorem ex_below (w : World) (o : Obj) : Below w.heap.size w (ex w o) :=
  ((((((Below.refl _ _).alloc (Nat.le_refl _) _).alloc (by simp) _).alloc (by simp; omega) _).alloc (by simp; omega) _).alloc (by simp; omega) _)
theorem ex_box {w w' : World} {a : Value} {t : TypeId} (hb : Below (ex w (.cells #[a] t)).heap.size (ex w (.cells #[a] t)) w') : w'.cell? ⟨w.heap.size, 0, none⟩ = some a ∧ w.heap.size < w'.heap.size ∧ Below w.heap.size w w' := by
  have hs := hb.size
  have h0 := ex_below w (.cells #[a] t)
  refine ⟨?_, by simp [ex] at hs; omega, h0.trans (hb.mono h0.size)⟩
  rw [hb.cell (p := ⟨w.heap.size, 0, none⟩) (by simp [ex]; omega), cell_past _ (by simp; omega), cell_past _ (by simp; omega), cell_past _ (by simp; omega), cell_past _ (by simp), cell_at2 rfl]; rfl

set_option maxRecDepth 100000 in
set_option maxHeartbeats 4000000 in
theorem big (ad fad tad rad : Option Addr) (n cap m fc k tc rn rc : Nat) (w : World) (hm : n ≤ maxLen) (hfm : m ≤ maxLen) (htm : k ≤ maxLen) (hrm : rn ≤ maxLen) (h : 5000 < n ∨ 5000 < rn ∨ 5000 < m ∨ 5000 < k) :
    Calls Try.prog 3 #[.agg #[.slice ad n cap], .slice fad m fc, .slice tad k tc, .slice rad rn rc] w fun e w' => e = .returned (.bool true) ∧ Below w.heap.size w w' := by
  by_cases hv : 5000 < n ∨ 5000 < rn ∨ 5000 < m
  · go_enter Try.func3, Try.ntmps3
    go_wp2_with (first | (go_at_call 4; refine (two0 _ _ _ _ _ (ex1 w _) (ex2 w _) (ex3 w _) (ex4 w _)).mono ?_; rintro e w1 ⟨⟨ge, ce, ge', ce', rfl, x8, x0, x1, xg, xg'⟩, hb1⟩; obtain ⟨k1, z1, B1⟩ := ex_box hb1; have S0 := Stand.new (v := sl ge 9 ce) (A := 0) (B := 0) (t := 24) (t' := 27) B1 k1 z1; have SX := S0; obtain ⟨pb, px, ph, pa, pc, pzh, pza, pzb, plo, phi⟩ := SX; have pX0 := Nat.lt_of_succ_lt phi) | (go_at_call 5; refine (kvast3_yes ad rad fad n cap rn rc m fc _ hm hrm hfm hv).mono ?_; rintro e w2 ⟨rfl, hb2⟩))
    go_ret
    exact ⟨rfl, (S0.below hb2).bel⟩
  · have h4 : (5000 : Int) < (k : Int) := by omega
    have htm' : (k : Int) ≤ 9223372036854775807 := by unfold maxLen at htm; omega
    go_enter Try.func3, Try.ntmps3
    go_wp2_with (first | (go_at_call 4; refine (two0 _ _ _ _ _ (ex1 w _) (ex2 w _) (ex3 w _) (ex4 w _)).mono ?_; rintro e w1 ⟨⟨ge, ce, ge', ce', rfl, x8, x0, x1, xg, xg'⟩, hb1⟩; obtain ⟨k1, z1, B1⟩ := ex_box hb1; have S0 := Stand.new (v := sl ge 9 ce) (A := 0) (B := 0) (t := 24) (t' := 27) B1 k1 z1; have SX := S0; obtain ⟨pb, px, ph, pa, pc, pzh, pza, pzb, plo, phi⟩ := SX; have pX0 := Nat.lt_of_succ_lt phi) | (go_at_call 5; refine (kvast3_no ad rad fad n cap rn rc m fc _ (by omega) (by omega) (by omega)).mono ?_; rintro e w2 ⟨rfl, hb2⟩))
    go_ret
    exact ⟨rfl, (S0.below hb2).bel⟩

set_option maxRecDepth 100000 in
set_option maxHeartbeats 8000000 in
theorem walk_ff (W F T roots : List Int) (ad fad tad rad : Option Addr) (cap fc tc rcap : Nat) (w : World) (hl : W.length ≤ 5000) (hn : F.length ≤ 5000) (ht : T.length ≤ 5000) (hrl : roots.length ≤ 5000) (hr : WordsAt ad W w) (hF : RootsAt fad F w) (hT : RootsAt tad T w) (hroots : RootsAt rad roots w) (h2 : (becFault W roots F T true).1 ≠ 0) (h1 : (becFault W roots F T false).1 ≠ 0) :
    Calls Try.prog 3 #[.agg #[.slice ad W.length cap], .slice fad F.length fc, .slice tad T.length tc, .slice rad roots.length rcap] w fun e w' => e = .returned (.bool true) ∧ Below w.heap.size w w' := by
  have H2 : Hid (∀ w0, Below w.heap.size w w0 → Calls Try.prog 4 #[heapV ad W.length cap, .slice fad F.length fc, .slice tad T.length tc, .slice rad roots.length rcap] w0 fun e w' => FaultAns (becFault W roots F T true) e ∧ Below w0.heap.size w0 w') :=
    fun w0 hb => two_fault W F T roots ad fad tad rad cap fc tc rcap w0 (by unfold maxLen; omega) (hr.below hb) (hF.below hb) (hT.below hb) (hroots.below hb) hn hrl h2
  have H1 : Hid (∀ w0, Below w.heap.size w w0 → Calls Try.prog 7 #[heapV ad W.length cap, .slice fad F.length fc, .slice tad T.length tc, .slice rad roots.length rcap] w0 fun e w' => FaultAns (becFault W roots F T false) e ∧ Below w0.heap.size w0 w') :=
    fun w0 hb => one_fault W F T roots ad fad tad rad cap fc tc rcap w0 (by unfold maxLen; omega) (hr.below hb) (hF.below hb) (hT.below hb) (hroots.below hb) hn hrl h1
  have htt : ¬ ((5000 : Int) < (T.length : Int)) := by omega
  unfold FaultAns at H1 H2
  generalize becFault W roots F T true = G at *
  generalize becFault W roots F T false = E at *
  have hb0 : (G.1 == 0) = false := by simpa using h2
  have hb1 : (E.1 != 0) = true := by simpa using h1
  clear h1 h2 hr hF hT hroots
  go_enter Try.func3, Try.ntmps3
  go_wp2_with (first | (go_at_call_of 4 (W.length); refine (H2.out _ S1.bel).mono ?_; rintro e w3 ⟨rfl, hb3⟩; have S2 := S1.below hb3; have SX := S2; obtain ⟨rb, rx, rh, ra, rc, rzh, rza, rzb, rlo, rhi⟩ := SX; have rX0 := Nat.lt_of_succ_lt rhi; have S5 := S2.set (.slice none 0 0) G.1 G.2; have SX := S5; obtain ⟨sb, sx, sh, sa, sc, szh, sza, szb, slo, shi⟩ := SX; have sX0 := Nat.lt_of_succ_lt shi) | (go_at_call 4; refine (two0 _ _ _ _ _ (ex1 w _) (ex2 w _) (ex3 w _) (ex4 w _)).mono ?_; rintro e w1 ⟨⟨ge, ce, ge', ce', rfl, x8, x0, x1, xg, xg'⟩, hb1⟩; obtain ⟨k1, z1, B1⟩ := ex_box hb1; have S0 := Stand.new (v := sl ge 9 ce) (A := 0) (B := 0) (t := 24) (t' := 27) B1 k1 z1; have SX := S0; obtain ⟨pb, px, ph, pa, pc, pzh, pza, pzb, plo, phi⟩ := SX; have pX0 := Nat.lt_of_succ_lt phi) | (go_at_call 5; refine (kvast3_no _ rad fad _ cap _ rcap _ fc _ hl hrl hn).mono ?_; rintro e w2 ⟨rfl, hb2⟩; have S1 := S0.below hb2; have SX := S1; obtain ⟨qb, qx, qh, qa, qc, qzh, qza, qzb, qlo, qhi⟩ := SX; have qX0 := Nat.lt_of_succ_lt qhi) | (go_at_call 7; refine (H1.out _ S5.bel).mono ?_; rintro e w7 ⟨rfl, hb7⟩; have S6 := S5.below hb7; have SX := S6; obtain ⟨vb, vx, vh, va, vc, vzh, vza, vzb, vlo, vhi⟩ := SX; have vX0 := Nat.lt_of_succ_lt vhi; have S7 := S6.set (.slice none 0 0) E.1 E.2; have SX := S7; obtain ⟨yb, yx, yh, ya, yc, yzh, yza, yzb, ylo, yhi⟩ := SX; have yX0 := Nat.lt_of_succ_lt yhi))
  go_ret
  exact ⟨ret_bool (by simp), S7.bel⟩

set_option maxRecDepth 100000 in
set_option maxHeartbeats 16000000 in
theorem walk_fy (W F T roots : List Int) (ad fad tad rad : Option Addr) (cap fc tc rcap : Nat) (w : World) (hl : W.length ≤ 5000) (hn : F.length ≤ 5000) (ht : T.length ≤ 5000) (hrl : roots.length ≤ 5000) (hr : WordsAt ad W w) (hF : RootsAt fad F w) (hT : RootsAt tad T w) (hroots : RootsAt rad roots w) (h2 : (becFault W roots F T true).1 ≠ 0) (h1 : (becFault W roots F T false).1 = 0) :
    Calls Try.prog 3 #[.agg #[.slice ad W.length cap], .slice fad F.length fc, .slice tad T.length tc, .slice rad roots.length rcap] w fun e w' => e = .returned (.bool true) ∧ Below w.heap.size w w' := by
  have H2 : Hid (∀ w0, Below w.heap.size w w0 → Calls Try.prog 4 #[heapV ad W.length cap, .slice fad F.length fc, .slice tad T.length tc, .slice rad roots.length rcap] w0 fun e w' => FaultAns (becFault W roots F T true) e ∧ Below w0.heap.size w0 w') :=
    fun w0 hb => two_fault W F T roots ad fad tad rad cap fc tc rcap w0 (by unfold maxLen; omega) (hr.below hb) (hF.below hb) (hT.below hb) (hroots.below hb) hn hrl h2
  have H1 : Hid (∀ w0, Below w.heap.size w w0 → Calls Try.prog 7 #[heapV ad W.length cap, .slice fad F.length fc, .slice tad T.length tc, .slice rad roots.length rcap] w0 fun e w' => CollectAns (renW (otherP false (F.zip T)) W) (roots.map (otherP false (F.zip T))) w0.heap.size e w' ∧ Below w0.heap.size w0 w') :=
    fun w0 hb => one_yes W F T roots ad fad tad rad cap fc tc rcap w0 (hr.below hb) (hF.below hb) (hT.below hb) (hroots.below hb) hn hrl h1
  have htt : ¬ ((5000 : Int) < (T.length : Int)) := by omega
  have HF : Hid (RootsAt fad F w) := hF
  have HT : Hid (RootsAt tad T w) := hT
  have hLr : (roots.map (otherP false (F.zip T))).length ≤ 5000 := by rw [List.length_map]; exact hrl
  have HBe : Hid (∀ q i, q < (roots.map (otherP false (F.zip T))).length → i < F.length → wd (roots.map (otherP false (F.zip T))) q = wd F i → (∀ k, k < T.length → wd T k ≠ wd F i) → False) := fun q i hq hi e hno => by
    rw [List.length_map] at hq
    rw [map_wd hq] at e
    have hm := Pairs2.behind (F := F) (T := T) (r := wd roots q) (by rw [e]; exact wd_mem hi) (fault_ok h1).2.long
    rw [e] at hm
    obtain ⟨k, hk, ek⟩ := List.mem_iff_getElem.1 hm
    refine hno k hk ?_
    rw [← ek]; unfold wd; rw [List.getD_eq_getElem?_getD, List.getElem?_eq_getElem hk]; rfl
  unfold FaultAns at H2
  generalize becFault W roots F T true = G at *
  generalize renW (otherP false (F.zip T)) W = M at *
  generalize roots.map (otherP false (F.zip T)) = Lr at *
  have hb0 : (G.1 == 0) = false := by simpa using h2
  clear h1 h2 hr hF hT hroots
  go_enter Try.func3, Try.ntmps3
  go_wp2_with (first | (go_at_call_of 4 (W.length); refine (H2.out _ S1.bel).mono ?_; rintro e w3 ⟨rfl, hb3⟩; have S2 := S1.below hb3; have SX := S2; obtain ⟨rb, rx, rh, ra, rc, rzh, rza, rzb, rlo, rhi⟩ := SX; have rX0 := Nat.lt_of_succ_lt rhi; have S5 := S2.set (.slice none 0 0) G.1 G.2; have SX := S5; obtain ⟨sb, sx, sh, sa, sc, szh, sza, szb, slo, shi⟩ := SX; have sX0 := Nat.lt_of_succ_lt shi) | (go_at_call 4; refine (two0 _ _ _ _ _ (ex1 w _) (ex2 w _) (ex3 w _) (ex4 w _)).mono ?_; rintro e w1 ⟨⟨ge, ce, ge', ce', rfl, x8, x0, x1, xg, xg'⟩, hb1⟩; obtain ⟨k1, z1, B1⟩ := ex_box hb1; have S0 := Stand.new (v := sl ge 9 ce) (A := 0) (B := 0) (t := 24) (t' := 27) B1 k1 z1; have SX := S0; obtain ⟨pb, px, ph, pa, pc, pzh, pza, pzb, plo, phi⟩ := SX; have pX0 := Nat.lt_of_succ_lt phi) | (go_at_call 5; refine (kvast3_no _ rad fad _ cap _ rcap _ fc _ hl hrl hn).mono ?_; rintro e w2 ⟨rfl, hb2⟩; have S1 := S0.below hb2; have SX := S1; obtain ⟨qb, qx, qh, qa, qc, qzh, qza, qzb, qlo, qhi⟩ := SX; have qX0 := Nat.lt_of_succ_lt qhi) | (go_at_call 7; refine (H1.out _ S5.bel).mono ?_; rintro e w7 ⟨⟨g7, c7, g8, c8, rfl, hg7, hg8, hownK7, hownL7⟩, hb7⟩; have S6 := S5.below hb7; have SX := S6; obtain ⟨vb, vx, vh, va, vc, vzh, vza, vzb, vlo, vhi⟩ := SX; have vX0 := Nat.lt_of_succ_lt vhi; have S7 := S6.set (sl g7 M.length c7) 0 0; have SX := S7; obtain ⟨yb, yx, yh, ya, yc, yzh, yza, yzb, ylo, yhi⟩ := SX; have yX0 := Nat.lt_of_succ_lt yhi; have hg8' : w1.heap.size + 1 < g8 := (by first | omega | (simp at hg8; omega)); have oL8 := own_set' (own_set' (own_set' hownL7 (a := ⟨w1.heap.size, 0, none⟩) (by dsimp only; omega) (sl g7 M.length c7)) (a := ⟨w1.heap.size + 1, 0, none⟩) (by dsimp only; omega) (.int .i64 0)) (a := ⟨w1.heap.size + 1, 1, none⟩) (by dsimp only; omega) (.int .i64 0)))
  have HLc : Hid (∀ k, k < Lr.length → (((w7.setCell ⟨w1.heap.size, 0, none⟩ (sl g7 M.length c7)).setCell ⟨w1.heap.size + 1, 0, none⟩ (.int .i64 0)).setCell ⟨w1.heap.size + 1, 1, none⟩ (.int .i64 0)).cell? ⟨g8, k, none⟩ = some (.int .i64 (wd Lr k))) := fun k hk => own_cell oL8 hk
  have hlL := own_lt oL8
  have BL := S7.bel
  go_loopw [17] (fun s17 wr => ∃ (i : Nat), s17 = .int .i64 i ∧ i ≤ F.length ∧ Hid (∀ k, k < Lr.length → wr.cell? ⟨g8, k, none⟩ = some (.int .i64 (wd Lr k))) ∧ g8 < wr.heap.size ∧ Below w.heap.size w wr) (fun s17 _ => F.length - (intOf s17).toNat)
  case atStart => exact ⟨0, rfl, Nat.zero_le _, HLc, hlL, BL⟩
  case round =>
    clear HLc hlL BL oL8 hownK7 hownL7 S0 S1 S2 S5 S6 S7 H1 H2
    obtain ⟨i, rfl, hi, HLc, hlL, BL⟩ := hrel
    by_cases hlt : i < F.length
    · obtain ⟨fb, fq, hfad, hrF⟩ := HF.out (by omega)
      subst hfad
      have hF0 := hrF.lt
      have HFc : Hid (∀ wx, Below w.heap.size w wx → wx.cell? ⟨fb, fq + i, none⟩ = some (.int .i64 (wd F i))) := fun wx hx => (hrF.same hx).cell i hlt
      have hii : (i : Int) < (F.length : Int) := by omega
      clear hrF
      go_wp2_with fail
      go_loopw [18, 19] (fun s18 s19 wr => ∃ (o : Bool) (j : Nat), s18 = .bool o ∧ s19 = .int .i64 j ∧ j ≤ T.length ∧ Hid (o = false → ∀ k, k < j → wd T k ≠ wd F i) ∧ Hid (∀ k, k < Lr.length → wr.cell? ⟨g8, k, none⟩ = some (.int .i64 (wd Lr k))) ∧ g8 < wr.heap.size ∧ Below w.heap.size w wr) (fun _ s19 _ => T.length - (intOf s19).toNat)
      case atStart => exact ⟨false, 0, rfl, rfl, Nat.zero_le _, fun _ k hk => by omega, HLc, hlL, BL⟩
      case round =>
        clear HLc hlL BL
        obtain ⟨o, j, rfl, rfl, hj, HN, HLc, hlL, BL⟩ := hrel
        by_cases hjt : j < T.length
        · obtain ⟨tb, tq, htad, hrT⟩ := HT.out (by omega)
          subst htad
          have hcT := (hrT.same BL).cell j hjt
          have hcF := HFc.out _ BL
          have hji : (j : Int) < (T.length : Int) := by omega
          clear hrT
          cases o with
          | true =>
            go_wp2_with fail
            go_quiet (fail)
            go_wp2_with fail
            go_roundw
            case rel => exact ⟨true, j + 1, rfl, by first | rfl | simp, by omega, fun h => (by cases h), cells_drewN HLc.out _, by simpa using hlL, below_drewN BL _⟩
            case measure => simp [intOf]; omega
          | false =>
            cases e1 : (wd T j == wd F i) with
            | true =>
              go_wp2_with fail
              go_quiet (fail)
              go_wp2_with fail
              go_roundw
              case rel => exact ⟨true, j + 1, rfl, by first | rfl | simp, by omega, fun h => (by cases h), cells_drewN HLc.out _, by simpa using hlL, below_drewN BL _⟩
              case measure => simp [intOf]; omega
            | false =>
              have HN' : Hid (∀ k, k < j + 1 → wd T k ≠ wd F i) := fun k hk => by
                by_cases e : k = j
                · rw [e]; simpa using e1
                · exact HN.out rfl k (by omega)
              clear HN
              go_wp2_with fail
              go_quiet (fail)
              go_wp2_with fail
              go_roundw
              case rel => exact ⟨false, j + 1, rfl, by first | rfl | simp, by omega, fun _ => HN'.out, cells_drewN HLc.out _, by simpa using hlL, below_drewN BL _⟩
              case measure => simp [intOf]; omega
        · have hje : j = T.length := by omega
          subst hje
          go_wp2_with fail
          go_loopw [20] (fun s20 wr => ∃ (q : Nat), s20 = .int .i64 q ∧ q ≤ Lr.length ∧ Hid (∀ k, k < Lr.length → wr.cell? ⟨g8, k, none⟩ = some (.int .i64 (wd Lr k))) ∧ g8 < wr.heap.size ∧ Below w.heap.size w wr) (fun s20 _ => Lr.length - (intOf s20).toNat)
          case atStart => exact ⟨0, rfl, Nat.zero_le _, HLc, hlL, BL⟩
          case round =>
            clear HLc hlL BL
            obtain ⟨q, rfl, hq, HLc, hlL, BL⟩ := hrel
            cases o with
            | true =>
              by_cases hql : q < Lr.length
              · have hqi : (q : Int) < (Lr.length : Int) := by omega
                go_wp2_with fail
                go_roundw
                case rel => exact ⟨i + 1, by first | rfl | simp, by omega, HLc, hlL, BL⟩
                case measure => simp [intOf]; omega
              · have hqi : ¬ ((q : Int) < (Lr.length : Int)) := by omega
                go_wp2_with fail
                go_roundw
                case rel => exact ⟨i + 1, by first | rfl | simp, by omega, HLc, hlL, BL⟩
                case measure => simp [intOf]; omega
            | false =>
              by_cases hql : q < Lr.length
              · have hqi : (q : Int) < (Lr.length : Int) := by omega
                have hcL := HLc.out q hql
                have hcF := HFc.out _ BL
                have e1 : (wd Lr q == wd F i) = false := by
                  have := HBe.out q i hql hlt
                  simpa using fun e => this e (HN.out rfl)
                go_wp2_with fail
                go_quiet (fail)
                go_wp2_with fail
                go_roundw
                case rel => exact ⟨q + 1, by first | rfl | simp, by omega, cells_drewN HLc.out _, by simpa using hlL, below_drewN BL _⟩
                case measure => simp [intOf]; omega
              · have hqi : ¬ ((q : Int) < (Lr.length : Int)) := by omega
                go_wp2_with fail
                go_roundw
                case rel => exact ⟨i + 1, by first | rfl | simp, by omega, HLc, hlL, BL⟩
                case measure => simp [intOf]; omega
    · have he : i = F.length := by omega
      subst he
      go_wp2_with fail
      go_ret
      exact ⟨rfl, BL⟩

set_option maxRecDepth 100000 in
set_option maxHeartbeats 16000000 in
theorem walk_yy (W F T roots : List Int) (ad fad tad rad : Option Addr) (cap fc tc rcap : Nat) (w : World) (hl : W.length ≤ 5000) (hn : F.length ≤ 5000) (ht : T.length ≤ 5000) (hrl : roots.length ≤ 5000) (hr : WordsAt ad W w) (hF : RootsAt fad F w) (hT : RootsAt tad T w) (hroots : RootsAt rad roots w) (h2 : (becFault W roots F T true).1 = 0) :
    Calls Try.prog 3 #[.agg #[.slice ad W.length cap], .slice fad F.length fc, .slice tad T.length tc, .slice rad roots.length rcap] w fun e w' => e = .returned (.bool true) ∧ Below w.heap.size w w' := by
  have h1 := one_of_two h2
  have H2 : Hid (∀ w0, Below w.heap.size w w0 → Calls Try.prog 4 #[heapV ad W.length cap, .slice fad F.length fc, .slice tad T.length tc, .slice rad roots.length rcap] w0 fun e w' => CollectAns (renW (otherP true (F.zip T)) W) (roots.map (otherP true (F.zip T))) w0.heap.size e w' ∧ Below w0.heap.size w0 w') :=
    fun w0 hb => two_yes W F T roots ad fad tad rad cap fc tc rcap w0 (hr.below hb) (hF.below hb) (hT.below hb) (hroots.below hb) hn hrl h2
  have H1 : Hid (∀ w0, Below w.heap.size w w0 → Calls Try.prog 7 #[heapV ad W.length cap, .slice fad F.length fc, .slice tad T.length tc, .slice rad roots.length rcap] w0 fun e w' => CollectAns (renW (otherP false (F.zip T)) W) (roots.map (otherP false (F.zip T))) w0.heap.size e w' ∧ Below w0.heap.size w0 w') :=
    fun w0 hb => one_yes W F T roots ad fad tad rad cap fc tc rcap w0 (hr.below hb) (hF.below hb) (hT.below hb) (hroots.below hb) hn hrl h1
  have htt : ¬ ((5000 : Int) < (T.length : Int)) := by omega
  have HF : Hid (RootsAt fad F w) := hF
  have HT : Hid (RootsAt tad T w) := hT
  have hLr : (roots.map (otherP false (F.zip T))).length ≤ 5000 := by rw [List.length_map]; exact hrl
  have HBe : Hid (∀ q i, q < (roots.map (otherP false (F.zip T))).length → i < F.length → wd (roots.map (otherP false (F.zip T))) q = wd F i → (∀ k, k < T.length → wd T k ≠ wd F i) → False) := fun q i hq hi e hno => by
    rw [List.length_map] at hq
    rw [map_wd hq] at e
    have hm := Pairs2.behind (F := F) (T := T) (r := wd roots q) (by rw [e]; exact wd_mem hi) (fault_ok h1).2.long
    rw [e] at hm
    obtain ⟨k, hk, ek⟩ := List.mem_iff_getElem.1 hm
    refine hno k hk ?_
    rw [← ek]; unfold wd; rw [List.getD_eq_getElem?_getD, List.getElem?_eq_getElem hk]; rfl
  obtain ⟨r0, P⟩ := fault_ok h2
  obtain ⟨hc, _, _⟩ := roots_zero r0
  have hlen := (front_out (check_fine hc).1).1
  obtain ⟨b, off, rfl, hrow⟩ := hr hlen
  have hKl : (renW (otherP true (F.zip T)) W).length = W.length := ren_length hlen (fine_of hc).fit
  have hLl : (roots.map (otherP true (F.zip T))).length = roots.length := List.length_map _
  have hwK : AllWf (renW (otherP true (F.zip T)) W) := ren_wf P.leads hrow.wf
  have hwL : AllWf (roots.map (otherP true (F.zip T))) := map_wf P.leads (fun k => by
    by_cases hk : 0 < roots.length
    · obtain ⟨rb, ro, _, hrr⟩ := hroots hk; exact hrr.wf k
    · have : roots = [] := List.eq_nil_of_length_eq_zero (by omega)
      subst this; show (Lit.int .i64 0).wf = true; decide)
  have HA : Hid (∀ g c g' c' w0, Below w.heap.size w w0 → w0.ownsRow 0 3 1 (sl g (renW (otherP true (F.zip T)) W).length c) (renW (otherP true (F.zip T)) W).length (vals (renW (otherP true (F.zip T)) W)) → w0.ownsRow 0 3 1 (sl g' (roots.map (otherP true (F.zip T))).length c') (roots.map (otherP true (F.zip T))).length (vals (roots.map (otherP true (F.zip T)))) → Calls Try.prog 4 #[heapV (some ⟨g, 0, none⟩) (renW (otherP true (F.zip T)) W).length c, .slice fad F.length fc, .slice tad T.length tc, .slice (some ⟨g', 0, none⟩) (roots.map (otherP true (F.zip T))).length c'] w0 fun e w' => CollectAns W roots w0.heap.size e w' ∧ Below w0.heap.size w0 w') := fun g c g' c' w0 hb oK oL => by
    have := two_yes (renW (otherP true (F.zip T)) W) F T (roots.map (otherP true (F.zip T))) (some ⟨g, 0, none⟩) fad tad (some ⟨g', 0, none⟩) c fc tc c' w0 (fun _ => ⟨g, 0, rfl, own_reads oK hwK⟩) (hF.below hb) (hT.below hb) (fun _ => ⟨g', 0, rfl, own_reads oL hwL⟩) hn (by rw [hLl]; exact hrl) (again_fault h2)
    rwa [(again_same h2).1, (again_same h2).2] at this
  have HRW : Hid (∀ w0, Below w.heap.size w w0 → Reads w0 (.slice (some ⟨b, off, none⟩) W.length cap) W) := fun w0 hb => Reads.of_row (hrow.same hb)
  have HRO : Hid (∀ w0, Below w.heap.size w w0 → Reads w0 (.slice rad roots.length rcap) roots) := fun w0 hb => Reads.of_roots (hroots.below hb)
  have hWW : (W == W) = true := by simp
  have hRR : (roots == roots) = true := by simp
  clear hKl hLl hwK hwL P r0 hc hlen hrow
  generalize renW (otherP true (F.zip T)) W = K at *
  generalize roots.map (otherP true (F.zip T)) = L at *
  generalize renW (otherP false (F.zip T)) W = M at *
  generalize roots.map (otherP false (F.zip T)) = Lr at *
  clear h1 h2 hr hF hT hroots
  go_enter Try.func3, Try.ntmps3
  go_wp2_with (first | (go_at_call_of 4 (K.length); refine (HA.out g c g' c' _ S3.bel oK oL).mono ?_; rintro e w4 ⟨⟨gm, cm, gr, cr, rfl, hgm, hgr, hownM, hownR⟩, hb4⟩; have S4 := S3.below hb4; have SX := S4; obtain ⟨tb, tx, th, ta, tc, tzh, tza, tzb, tlo, thi⟩ := SX; have tX0 := Nat.lt_of_succ_lt thi; have bA : Below w4.heap.size w4 ((w4.alloc (.cells #[sl gm W.length cm] 24)).alloc (.cells #[.int .i64 0, .int .i64 0] 27)) := (((Below.refl _ _).alloc (Nat.le_refl _) _).alloc (by simp) _); have rM := Reads.of_own (own_same hownM (fun g0 h0 => bA.block g0 (hownM.lt g0 h0).2)); have rR := Reads.of_own (own_same hownR (fun g0 h0 => bA.block g0 (hownR.lt g0 h0).2)); have rW := HRW.out _ (S4.below bA).bel; have rO := HRO.out _ (S4.below bA).bel; have tz : w.heap.size < w4.heap.size := (by omega)) | (go_at_call_of 4 (W.length); refine (H2.out _ S1.bel).mono ?_; rintro e w3 ⟨⟨g, c, g', c', rfl, hg, hg', hownK, hownL⟩, hb3⟩; have S2 := S1.below hb3; have SX := S2; obtain ⟨rb, rx, rh, ra, rc, rzh, rza, rzb, rlo, rhi⟩ := SX; have rX0 := Nat.lt_of_succ_lt rhi; have S3 := S2.set (sl g K.length c) 0 0; have SX := S3; obtain ⟨sb, sx, sh, sa, sc, szh, sza, szb, slo, shi⟩ := SX; have sX0 := Nat.lt_of_succ_lt shi; have oK := own_set' (own_set' (own_set' hownK (a := ⟨w1.heap.size, 0, none⟩) (by dsimp only; omega) (sl g K.length c)) (a := ⟨w1.heap.size + 1, 0, none⟩) (by dsimp only; omega) (.int .i64 0)) (a := ⟨w1.heap.size + 1, 1, none⟩) (by dsimp only; omega) (.int .i64 0); have oL := own_set' (own_set' (own_set' hownL (a := ⟨w1.heap.size, 0, none⟩) (by dsimp only; omega) (sl g K.length c)) (a := ⟨w1.heap.size + 1, 0, none⟩) (by dsimp only; omega) (.int .i64 0)) (a := ⟨w1.heap.size + 1, 1, none⟩) (by dsimp only; omega) (.int .i64 0)) | (go_at_call 4; refine (two0 _ _ _ _ _ (ex1 w _) (ex2 w _) (ex3 w _) (ex4 w _)).mono ?_; rintro e w1 ⟨⟨ge, ce, ge', ce', rfl, x8, x0, x1, xg, xg'⟩, hb1⟩; obtain ⟨k1, z1, B1⟩ := ex_box hb1; have S0 := Stand.new (v := sl ge 9 ce) (A := 0) (B := 0) (t := 24) (t' := 27) B1 k1 z1; have SX := S0; obtain ⟨pb, px, ph, pa, pc, pzh, pza, pzb, plo, phi⟩ := SX; have pX0 := Nat.lt_of_succ_lt phi) | (go_at_call 5; refine (kvast3_no _ rad fad _ cap _ rcap _ fc _ hl hrl hn).mono ?_; rintro e w2 ⟨rfl, hb2⟩; have S1 := S0.below hb2; have SX := S1; obtain ⟨qb, qx, qh, qa, qc, qzh, qza, qzb, qlo, qhi⟩ := SX; have qX0 := Nat.lt_of_succ_lt qhi) | (go_at_call_of 6 (W.length); refine (kints_any W W _ _ _ rM rW (by omega)).mono ?_; rw [hWW]; rintro e w5 ⟨rfl, m1, rfl⟩) | (go_at_call_of 6 (roots.length); refine (kints_any roots roots _ _ _ (rR.below (below_drewN (Below.refl _ _) m1)) (rO.below (below_drewN (Below.refl _ _) m1)) (by omega)).mono ?_; rw [hRR]; rintro e w6 ⟨rfl, m2, rfl⟩; have S5 := S4.below (below_drewN bA (m1 + m2)); have SX := S5; obtain ⟨ub, ux, uh, ua, uc, uzh, uza, uzb, ulo, uhi⟩ := SX; have uX0 := Nat.lt_of_succ_lt uhi) | (go_at_call 7; refine (H1.out _ S5.bel).mono ?_; rintro e w7 ⟨⟨g7, c7, g8, c8, rfl, hg7, hg8, hownK7, hownL7⟩, hb7⟩; have S6 := S5.below hb7; have SX := S6; obtain ⟨vb, vx, vh, va, vc, vzh, vza, vzb, vlo, vhi⟩ := SX; have vX0 := Nat.lt_of_succ_lt vhi; have S7 := S6.set (sl g7 M.length c7) 0 0; have SX := S7; obtain ⟨yb, yx, yh, ya, yc, yzh, yza, yzb, ylo, yhi⟩ := SX; have yX0 := Nat.lt_of_succ_lt yhi; have hg8' : w1.heap.size + 1 < g8 := (by first | omega | (simp at hg8; omega)); have oL8 := own_set' (own_set' (own_set' hownL7 (a := ⟨w1.heap.size, 0, none⟩) (by dsimp only; omega) (sl g7 M.length c7)) (a := ⟨w1.heap.size + 1, 0, none⟩) (by dsimp only; omega) (.int .i64 0)) (a := ⟨w1.heap.size + 1, 1, none⟩) (by dsimp only; omega) (.int .i64 0)))
  have HLc : Hid (∀ k, k < Lr.length → (((w7.setCell ⟨w1.heap.size, 0, none⟩ (sl g7 M.length c7)).setCell ⟨w1.heap.size + 1, 0, none⟩ (.int .i64 0)).setCell ⟨w1.heap.size + 1, 1, none⟩ (.int .i64 0)).cell? ⟨g8, k, none⟩ = some (.int .i64 (wd Lr k))) := fun k hk => own_cell oL8 hk
  have hlL := own_lt oL8
  have BL := S7.bel
  go_loopw [17] (fun s17 wr => ∃ (i : Nat), s17 = .int .i64 i ∧ i ≤ F.length ∧ Hid (∀ k, k < Lr.length → wr.cell? ⟨g8, k, none⟩ = some (.int .i64 (wd Lr k))) ∧ g8 < wr.heap.size ∧ Below w.heap.size w wr) (fun s17 _ => F.length - (intOf s17).toNat)
  case atStart => exact ⟨0, rfl, Nat.zero_le _, HLc, hlL, BL⟩
  case round =>
    clear HLc hlL BL oL8 hownK7 hownL7 S0 S1 S2 S3 S4 S5 S6 S7 H1 H2 HA oK oL hownK hownL hownM hownR rM rR rW rO HRW HRO bA
    obtain ⟨i, rfl, hi, HLc, hlL, BL⟩ := hrel
    by_cases hlt : i < F.length
    · obtain ⟨fb, fq, hfad, hrF⟩ := HF.out (by omega)
      subst hfad
      have hF0 := hrF.lt
      have HFc : Hid (∀ wx, Below w.heap.size w wx → wx.cell? ⟨fb, fq + i, none⟩ = some (.int .i64 (wd F i))) := fun wx hx => (hrF.same hx).cell i hlt
      have hii : (i : Int) < (F.length : Int) := by omega
      clear hrF
      go_wp2_with fail
      go_loopw [18, 19] (fun s18 s19 wr => ∃ (o : Bool) (j : Nat), s18 = .bool o ∧ s19 = .int .i64 j ∧ j ≤ T.length ∧ Hid (o = false → ∀ k, k < j → wd T k ≠ wd F i) ∧ Hid (∀ k, k < Lr.length → wr.cell? ⟨g8, k, none⟩ = some (.int .i64 (wd Lr k))) ∧ g8 < wr.heap.size ∧ Below w.heap.size w wr) (fun _ s19 _ => T.length - (intOf s19).toNat)
      case atStart => exact ⟨false, 0, rfl, rfl, Nat.zero_le _, fun _ k hk => by omega, HLc, hlL, BL⟩
      case round =>
        clear HLc hlL BL
        obtain ⟨o, j, rfl, rfl, hj, HN, HLc, hlL, BL⟩ := hrel
        by_cases hjt : j < T.length
        · obtain ⟨tb, tq, htad, hrT⟩ := HT.out (by omega)
          subst htad
          have hcT := (hrT.same BL).cell j hjt
          have hcF := HFc.out _ BL
          have hji : (j : Int) < (T.length : Int) := by omega
          clear hrT
          cases o with
          | true =>
            go_wp2_with fail
            go_quiet (fail)
            go_wp2_with fail
            go_roundw
            case rel => exact ⟨true, j + 1, rfl, by first | rfl | simp, by omega, fun h => (by cases h), cells_drewN HLc.out _, by simpa using hlL, below_drewN BL _⟩
            case measure => simp [intOf]; omega
          | false =>
            cases e1 : (wd T j == wd F i) with
            | true =>
              go_wp2_with fail
              go_quiet (fail)
              go_wp2_with fail
              go_roundw
              case rel => exact ⟨true, j + 1, rfl, by first | rfl | simp, by omega, fun h => (by cases h), cells_drewN HLc.out _, by simpa using hlL, below_drewN BL _⟩
              case measure => simp [intOf]; omega
            | false =>
              have HN' : Hid (∀ k, k < j + 1 → wd T k ≠ wd F i) := fun k hk => by
                by_cases e : k = j
                · rw [e]; simpa using e1
                · exact HN.out rfl k (by omega)
              clear HN
              go_wp2_with fail
              go_quiet (fail)
              go_wp2_with fail
              go_roundw
              case rel => exact ⟨false, j + 1, rfl, by first | rfl | simp, by omega, fun _ => HN'.out, cells_drewN HLc.out _, by simpa using hlL, below_drewN BL _⟩
              case measure => simp [intOf]; omega
        · have hje : j = T.length := by omega
          subst hje
          go_wp2_with fail
          go_loopw [20] (fun s20 wr => ∃ (q : Nat), s20 = .int .i64 q ∧ q ≤ Lr.length ∧ Hid (∀ k, k < Lr.length → wr.cell? ⟨g8, k, none⟩ = some (.int .i64 (wd Lr k))) ∧ g8 < wr.heap.size ∧ Below w.heap.size w wr) (fun s20 _ => Lr.length - (intOf s20).toNat)
          case atStart => exact ⟨0, rfl, Nat.zero_le _, HLc, hlL, BL⟩
          case round =>
            clear HLc hlL BL
            obtain ⟨q, rfl, hq, HLc, hlL, BL⟩ := hrel
            cases o with
            | true =>
              by_cases hql : q < Lr.length
              · have hqi : (q : Int) < (Lr.length : Int) := by omega
                go_wp2_with fail
                go_roundw
                case rel => exact ⟨i + 1, by first | rfl | simp, by omega, HLc, hlL, BL⟩
                case measure => simp [intOf]; omega
              · have hqi : ¬ ((q : Int) < (Lr.length : Int)) := by omega
                go_wp2_with fail
                go_roundw
                case rel => exact ⟨i + 1, by first | rfl | simp, by omega, HLc, hlL, BL⟩
                case measure => simp [intOf]; omega
            | false =>
              by_cases hql : q < Lr.length
              · have hqi : (q : Int) < (Lr.length : Int) := by omega
                have hcL := HLc.out q hql
                have hcF := HFc.out _ BL
                have e1 : (wd Lr q == wd F i) = false := by
                  have := HBe.out q i hql hlt
                  simpa using fun e => this e (HN.out rfl)
                go_wp2_with fail
                go_quiet (fail)
                go_wp2_with fail
                go_roundw
                case rel => exact ⟨q + 1, by first | rfl | simp, by omega, cells_drewN HLc.out _, by simpa using hlL, below_drewN BL _⟩
                case measure => simp [intOf]; omega
              · have hqi : ¬ ((q : Int) < (Lr.length : Int)) := by omega
                go_wp2_with fail
                go_roundw
                case rel => exact ⟨i + 1, by first | rfl | simp, by omega, HLc, hlL, BL⟩
                case measure => simp [intOf]; omega
    · have he : i = F.length := by omega
      subst he
      go_wp2_with fail
      go_ret
      exact ⟨rfl, BL⟩

theorem walk (W F T roots : List Int) (ad fad tad rad : Option Addr) (cap fc tc rcap : Nat) (w : World) (hm : W.length ≤ maxLen) (hfm : F.length ≤ maxLen) (htm : T.length ≤ maxLen) (hrm : roots.length ≤ maxLen) (hr : WordsAt ad W w) (hF : RootsAt fad F w) (hT : RootsAt tad T w) (hroots : RootsAt rad roots w) :
    Calls Try.prog 3 #[.agg #[.slice ad W.length cap], .slice fad F.length fc, .slice tad T.length tc, .slice rad roots.length rcap] w fun e w' => e = .returned (.bool true) ∧ Below w.heap.size w w' := by
  by_cases hl : W.length ≤ 5000 ∧ F.length ≤ 5000 ∧ T.length ≤ 5000 ∧ roots.length ≤ 5000
  · obtain ⟨l1, l2, l3, l4⟩ := hl
    by_cases h2 : (becFault W roots F T true).1 = 0
    · exact walk_yy W F T roots ad fad tad rad cap fc tc rcap w l1 l2 l3 l4 hr hF hT hroots h2
    · by_cases h1 : (becFault W roots F T false).1 = 0
      · exact walk_fy W F T roots ad fad tad rad cap fc tc rcap w l1 l2 l3 l4 hr hF hT hroots h2 h1
      · exact walk_ff W F T roots ad fad tad rad cap fc tc rcap w l1 l2 l3 l4 hr hF hT hroots h2 h1
  · exact big ad fad tad rad W.length cap F.length fc T.length tc roots.length rcap w hm hfm htm hrm (by omega)

set_option maxRecDepth 100000 in
theorem lifted (os : Os) (started : os.Started) (H : Type) (enc : TypeId × Value → H) :
    ReturnsInHanded {} Try.checked os 3 .any (Rows.becomeTwiceSpec.pre6 enc Try.prog Try.f3 Rows.becomeTwiceRow.domain false) (Rows.becomeTwiceSpec.post enc Try.prog Try.f3 false true false false) := by
  refine returnsInHanded_of_change (C := Try.checked) own started (by kernel_rfl) Try.func3
    (ChangeSpec.witness6 (enc := enc) (C := Try.checked) false ⟨#[], #[.agg #[.slice none 0 0], .slice none 0 0, .slice none 0 0, .slice none 0 0], []⟩ 8 (by kernel_rfl) (by kernel_rfl) (by kernel_rfl) (by kernel_rfl)) ?_
  intro W base args ds gs before hval0 hW hcnd _
  have hval : ∀ (j : Nat) t v, Try.f3.params[j]? = some t → args[j]? = some v → Value.okWide Try.prog W .any base t v := hval0
  have hW' := hW
  obtain ⟨p, q, hA0, hV, rfl, hfz, hnd⟩ := hW
  have hA : DataW.TrodAll enc Try.prog W 0 (fun _ => true) true Try.f3.params.toList args.toList ds p := hA0
  rw [Try.params3] at hA hval
  obtain ⟨v0, vs0, d0, ds0, p0, q0, hargs, rfl, rfl, h0, r0⟩ := trodAll_cons hA
  obtain ⟨v1, vs1, d1, ds1, p1, q1, rfl, rfl, rfl, h1, r1⟩ := trodAll_cons r0
  obtain ⟨v2, vs2, d2, ds2, p2, q2, rfl, rfl, rfl, h2, r2⟩ := trodAll_cons r1
  obtain ⟨v3, vs3, d3, ds3, p3, q3, rfl, rfl, rfl, h3, r3⟩ := trodAll_cons r2
  obtain ⟨rfl, rfl, rfl⟩ := trodAll_nil r3
  obtain rfl : args = #[v0, v1, v2, v3] := by cases args; simp_all
  obtain ⟨rfl, rfl⟩ := trodVars_none hV
  have lt0 : ∀ x ∈ p0, x.block < W.heap.size := by obtain ⟨m, hm⟩ := h0; exact DataW.trod_lt m _ _ _ hm
  have lt1 : ∀ x ∈ p1, x.block < W.heap.size := by obtain ⟨m, hm⟩ := h1; exact DataW.trod_lt m _ _ _ hm
  have lt2 : ∀ x ∈ p2, x.block < W.heap.size := by obtain ⟨m, hm⟩ := h2; exact DataW.trod_lt m _ _ _ hm
  have lt3 : ∀ x ∈ p3, x.block < W.heap.size := by obtain ⟨m, hm⟩ := h3; exact DataW.trod_lt m _ _ _ hm
  obtain ⟨ad0, cap0, L0, rfl, hm0, hr0⟩ := open_heap (hval 0 24 v0 rfl rfl) h0
  obtain ⟨ad1, cap1, L1, rfl, hm1, hr1⟩ := open_ints' (hval 1 22 v1 rfl rfl) h1
  obtain ⟨ad2, cap2, L2, rfl, hm2, hr2⟩ := open_ints' (hval 2 22 v2 rfl rfl) h2
  obtain ⟨ad3, cap3, L3, rfl, hm3, hr3⟩ := open_ints' (hval 3 22 v3 rfl rfl) h3
  clear hA0 hval0
  refine (walk L0 L1 L2 L3 ad0 ad1 ad2 ad3 cap0 cap1 cap2 cap3 W hm0 hm1 hm2 hm3 hr0 hr1 hr2 hr3).mono fun e W' ⟨he, bel⟩ => ?_
  subst he
  exact ⟨_, rfl, _, _, _, [], _, [], hW', trodAll_mk1 (shut_bool lt4 _), (trodAll_cons_mk (Below.trod laidOut (by kernel_rfl) (of_decide_eq_true (by kernel_rfl)) h0 bel lt0) (trodAll_cons_mk (Below.trod laidOut (by kernel_rfl) (of_decide_eq_true (by kernel_rfl)) h1 bel lt1) (trodAll_cons_mk (Below.trod laidOut (by kernel_rfl) (of_decide_eq_true (by kernel_rfl)) h2 bel lt2) (trodAll_cons_mk (Below.trod laidOut (by kernel_rfl) (of_decide_eq_true (by kernel_rfl)) h3 bel lt3) trodAll_mk0)))), rfl, bel.frame _, fun h => by cases h⟩

theorem over : Rows.becomeTwiceRow.holds Try.pinned (OpenSpec.ofChange Rows.becomeTwiceSpec) :=
  OpenClaim.holds_of_wide 3 Try.f3 rfl rfl rfl rfl rfl rfl rfl ⟨rfl, rfl, rfl, rfl, rfl⟩ rfl rfl rfl rfl rfl (by kernel_rfl) Try.func3 (by kernel_rfl)
    (of_decide_eq_true (by kernel_rfl)) (by unfold Func.isWrapper; first | (rw [if_pos (by decide +kernel)]; kernel_rfl) | (rw [if_neg (by decide +kernel)]; exact ⟨rfl, rfl⟩))
    (fun os started H enc _ => lifted os started H enc)

end Go.Proofs.Ytgggmdanpdggpac.becomeTwice
namespace Go.Proofs.Ytgggmdanpdggpac
/-- The statement. -/
theorem becomeTwice_holds : Rows.BecomeTwiceSaid := becomeTwice.over
#print axioms becomeTwice_holds
end Go.Proofs.Ytgggmdanpdggpac
