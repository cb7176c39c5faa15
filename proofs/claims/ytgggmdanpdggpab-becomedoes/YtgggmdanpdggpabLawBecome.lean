/- BecomeDoes holds for every heap, all roots and lists that can come in, with no condition: the program lets some be others, one way and both, as the document says, or tells what stands against it. -/
import Derived.Test.YtgggmdanpdggpabBecKit
import Derived.Test.YtgggmdanpdggpabRefWrong
import Derived.Test.YtgggmdanpdggpabRefBecome
import Derived.Deep.CutRange
namespace Go.Proofs.Ytgggmdanpdggpab.becomeDoes
open Go.ChangeShapes Go.WideShapes Go.ChangeAt Go.RowKit Go.Joins Go.Deep

theorem big (ad fad tad rad : Option Addr) (n cap m fc k tc rn rc : Nat) (w : World) (hm : n ≤ maxLen) (hfm : m ≤ maxLen) (htm : k ≤ maxLen) (hrm : rn ≤ maxLen) (h : 5000 < n ∨ 5000 < rn ∨ 5000 < m ∨ 5000 < k) :
    Calls Try.prog 8 #[.agg #[.slice ad n cap], .slice fad m fc, .slice tad k tc, .slice rad rn rc] w fun e w' => e = .returned (.bool true) ∧ Below w.heap.size w w' := by
  by_cases hv : 5000 < n ∨ 5000 < rn ∨ 5000 < m
  · go_enter Try.func8, Try.ntmps8
    go_wp2_with (go_at_call 9; refine (lvast3_yes ad rad fad n cap rn rc m fc _ hm hrm hfm hv).mono ?_; rintro e w1 ⟨rfl, hb1⟩)
    go_ret
    exact ⟨rfl, below_call hb1⟩
  · have h4 : (5000 : Int) < (k : Int) := by omega
    have htm' : (k : Int) ≤ 9223372036854775807 := by unfold maxLen at htm; omega
    go_enter Try.func8, Try.ntmps8
    go_wp2_with (go_at_call 9; refine (lvast3_no ad rad fad n cap rn rc m fc _ (by omega) (by omega) (by omega)).mono ?_; rintro e w1 ⟨rfl, hb1⟩)
    go_ret
    exact ⟨rfl, below_call hb1⟩

set_option maxRecDepth 100000 in
set_option maxHeartbeats 8000000 in
theorem walk_no (W F T roots : List Int) (ad fad tad rad : Option Addr) (cap fc tc rcap : Nat) (w : World) (hl : W.length ≤ 5000) (hn : F.length ≤ 5000) (ht : T.length ≤ 5000) (hrl : roots.length ≤ 5000) (hr : WordsAt ad W w) (hF : RootsAt fad F w) (hT : RootsAt tad T w) (hroots : RootsAt rad roots w) (h : (rootsOf W roots).1 ≠ 0) :
    Calls Try.prog 8 #[.agg #[.slice ad W.length cap], .slice fad F.length fc, .slice tad T.length tc, .slice rad roots.length rcap] w fun e w' => e = .returned (.bool true) ∧ Below w.heap.size w w' := by
  have hm : W.length ≤ maxLen := by unfold maxLen; omega
  have hf : ∀ both, becFault W roots F T both = rootsOf W roots := fun both => by unfold becFault; rw [if_neg h]
  have H1 : Hid (∀ w0, Below w.heap.size w w0 → Calls Try.prog 21 #[heapV ad W.length cap, .slice fad F.length fc, .slice tad T.length tc, .slice rad roots.length rcap] w0 fun e w' => FaultAns (rootsOf W roots) e ∧ Below w0.heap.size w0 w') :=
    fun w0 hb => by have := one_fault W F T roots ad fad tad rad cap fc tc rcap w0 hm (hr.below hb) (hF.below hb) (hT.below hb) (hroots.below hb) hn hrl (by rw [hf]; exact h); rwa [hf] at this
  have H2 : Hid (∀ w0, Below w.heap.size w w0 → Calls Try.prog 22 #[heapV ad W.length cap, .slice fad F.length fc, .slice tad T.length tc, .slice rad roots.length rcap] w0 fun e w' => FaultAns (rootsOf W roots) e ∧ Below w0.heap.size w0 w') :=
    fun w0 hb => by have := two_fault W F T roots ad fad tad rad cap fc tc rcap w0 hm (hr.below hb) (hF.below hb) (hT.below hb) (hroots.below hb) hn hrl (by rw [hf]; exact h); rwa [hf] at this
  have H7 : Hid (∀ w0, Below w.heap.size w w0 → Calls Try.prog 11 #[heapV ad W.length cap, .slice rad roots.length rcap] w0 fun e w' => e = .returned (.agg #[.int .i64 (rootsOf W roots).1, .int .i64 (rootsOf W roots).2]) ∧ Below w0.heap.size w0 w') :=
    fun w0 hb => rroots_any W roots ad rad cap rcap w0 hm (hr.below hb) (hroots.below hb) hrl
  unfold FaultAns at H1 H2
  have htt : ¬ ((5000 : Int) < (T.length : Int)) := by omega
  clear hf
  generalize rootsOf W roots = G at *
  have hb0 : (G.1 != 0) = true := by simpa using h
  have hb1 : (G.1 == 0) = false := by simpa using h
  clear h hr hF hT hroots hm
  go_enter Try.func8, Try.ntmps8
  go_wp2_with (go_at_call 9; refine (lvast3_no ad rad fad _ cap _ rcap _ fc _ hl hrl hn).mono ?_; rintro e w1 ⟨rfl, hb1⟩)
  have k0 := box_one hb1
  have z0 := grew1 hb1
  have B0 := below_call hb1
  clear hb1
  go_loopw [9] (fun s9 wr => ∃ (k : Nat), s9 = .int .i64 k ∧ k ≤ 2 ∧ wr.cell? ⟨w.heap.size, 0, none⟩ = some (.slice ad W.length cap) ∧ w.heap.size < wr.heap.size ∧ Below w.heap.size w wr) (fun s9 _ => 2 - (intOf s9).toNat)
  case atStart => exact ⟨0, rfl, by omega, k0, z0, B0⟩
  case round =>
    clear k0 z0 B0 w1
    obtain ⟨k, rfl, hk, kr, zr, hB⟩ := hrel
    match k, hk with
    | 0, _ =>
      go_wp2_with (first | (go_at_call 21; refine (H1.out _ hB).mono ?_; rintro e w1 ⟨rfl, hb1⟩; have k1 := through hb1 kr zr; have z1 : w.heap.size < w1.heap.size := (Nat.lt_of_lt_of_le zr hb1.size); have B1 : Below w.heap.size w w1 := hB.trans (hb1.mono hB.size); have S0 := Stand.new (v := .slice none 0 0) (A := G.1) (B := G.2) (t := 24) (t' := 28) B1 k1 z1; have SX := S0; obtain ⟨pb, px, ph, pa, pc, pzh, pza, pzb, plo, phi⟩ := SX; have pX0 := Nat.lt_of_succ_lt phi) | (go_at_call 11; refine (H7.out _ S0.bel).mono ?_; rintro e w3 ⟨rfl, hb3⟩; have S3 := S0.below hb3; have SX := S3; obtain ⟨rb, rx, rh, ra, rc, rzh, rza, rzb, rlo, rhi⟩ := SX; have rX0 := Nat.lt_of_succ_lt rhi))
      go_roundw
      case rel => exact ⟨1, by first | rfl | simp, by omega, by rw [cell_past _ (by dsimp only; omega)]; exact rx, by simp; omega, S3.bel.alloc (by omega) _⟩
      case measure => simp [intOf]
    | 1, _ =>
      go_wp2_with (first | (go_at_call 21; refine (H1.out _ hB).mono ?_; rintro e w1 ⟨rfl, hb1⟩; have k1 := through hb1 kr zr; have z1 : w.heap.size < w1.heap.size := (Nat.lt_of_lt_of_le zr hb1.size); have B1 : Below w.heap.size w w1 := hB.trans (hb1.mono hB.size); have S0 := Stand.new (v := .slice none 0 0) (A := G.1) (B := G.2) (t := 24) (t' := 28) B1 k1 z1; have SX := S0; obtain ⟨pb, px, ph, pa, pc, pzh, pza, pzb, plo, phi⟩ := SX; have pX0 := Nat.lt_of_succ_lt phi) | (go_at_call 22; refine (H2.out _ S0.bel).mono ?_; rintro e w2 ⟨rfl, hb2⟩; have S1 := S0.below hb2; have SX := S1; obtain ⟨qb, qx, qh, qa, qc, qzh, qza, qzb, qlo, qhi⟩ := SX; have qX0 := Nat.lt_of_succ_lt qhi; have S0 := S1.set (.slice none 0 0) G.1 G.2; have SX := S0; obtain ⟨pb, px, ph, pa, pc, pzh, pza, pzb, plo, phi⟩ := SX; have pX0 := Nat.lt_of_succ_lt phi) | (go_at_call 11; refine (H7.out _ S0.bel).mono ?_; rintro e w3 ⟨rfl, hb3⟩; have S3 := S0.below hb3; have SX := S3; obtain ⟨rb, rx, rh, ra, rc, rzh, rza, rzb, rlo, rhi⟩ := SX; have rX0 := Nat.lt_of_succ_lt rhi))
      go_roundw
      case rel => exact ⟨2, by first | rfl | simp, by omega, by rw [cell_past _ (by dsimp only; omega)]; exact rx, by simp; omega, S3.bel.alloc (by omega) _⟩
      case measure => simp [intOf]
    | 2, _ =>
      go_wp2_with fail
      go_ret
      exact ⟨rfl, hB⟩

set_option maxRecDepth 100000 in
set_option maxHeartbeats 16000000 in
theorem walk_yes (W F T roots : List Int) (ad fad tad rad : Option Addr) (cap fc tc rcap : Nat) (w : World) (hl : W.length ≤ 5000) (hn : F.length ≤ 5000) (ht : T.length ≤ 5000) (hrl : roots.length ≤ 5000) (hr : WordsAt ad W w) (hF : RootsAt fad F w) (hT : RootsAt tad T w) (hroots : RootsAt rad roots w) (h : (rootsOf W roots).1 = 0) :
    Calls Try.prog 8 #[.agg #[.slice ad W.length cap], .slice fad F.length fc, .slice tad T.length tc, .slice rad roots.length rcap] w fun e w' => e = .returned (.bool true) ∧ Below w.heap.size w w' := by
  obtain ⟨hc, _, h00⟩ := roots_zero h
  have hFine := fine_of hc
  have hu := hFine.fit
  have hlW := hFine.few
  have h2 := (front_out (check_fine hc).1).1
  obtain ⟨b, off, rfl, hrow⟩ := hr h2
  have HW1 : Hid (∀ w0, Below w.heap.size w w0 → Calls Try.prog 21 #[heapV (some ⟨b, off, none⟩) W.length cap, .slice fad F.length fc, .slice tad T.length tc, .slice rad roots.length rcap] w0 fun e w' => AnyAns e ∧ Below w0.heap.size w0 w') :=
    fun w0 hb => one_weak W F T roots _ fad tad rad cap fc tc rcap w0 (by unfold maxLen; omega) (hr.below hb) (hF.below hb) (hT.below hb) (hroots.below hb) hn hrl
  have H7 : Hid (∀ w0, Below w.heap.size w w0 → Calls Try.prog 11 #[heapV (some ⟨b, off, none⟩) W.length cap, .slice rad roots.length rcap] w0 fun e w' => e = .returned (.agg #[.int .i64 0, .int .i64 0]) ∧ Below w0.heap.size w0 w') :=
    fun w0 hb => by have := rroots_any W roots _ rad cap rcap w0 (by unfold maxLen; omega) (hr.below hb) (hroots.below hb) hrl; rwa [h00] at this
  have HWr : Hid (∀ both w0, Below w.heap.size w w0 → Calls Try.prog 23 #[heapV (some ⟨b, off, none⟩) W.length cap, .slice fad F.length fc, .slice tad T.length tc, .bool both] w0 fun e w' => e = .returned (.agg #[.int .i64 (wrongOf W F T both).1, .int .i64 (wrongOf W F T both).2]) ∧ Below w0.heap.size w0 w') :=
    fun both w0 hb => rwrong_any W F T b off cap fad tad fc tc both w0 (hrow.same hb) hu hlW (hF.below hb) (hT.below hb) hn
  have HBe : Hid (∀ both w0, Below w.heap.size w w0 → F.length = T.length → Calls Try.prog 24 #[heapV (some ⟨b, off, none⟩) W.length cap, .slice fad F.length fc, .slice tad T.length tc, .slice rad roots.length rcap, .bool both] w0 fun e w' => RBecAns (renW (otherP both (F.zip T)) W) (roots.map (otherP both (F.zip T))) w0.heap.size e w' ∧ Below w0.heap.size w0 w') :=
    fun both w0 hb hft => rbecome_any W F T roots b off cap fad tad rad fc tc rcap both w0 (hrow.same hb) (hF.below hb) (hT.below hb) (hroots.below hb) hft hn hrl hu h2 hlW
  unfold AnyAns at HW1
  have htt : ¬ ((5000 : Int) < (T.length : Int)) := by omega
  clear hc h00 hFine hrow
  go_enter Try.func8, Try.ntmps8
  go_wp2_with (go_at_call 9; refine (lvast3_no _ rad fad _ cap _ rcap _ fc _ hl hrl hn).mono ?_; rintro e w1 ⟨rfl, hb1⟩)
  have k0 := box_one hb1
  have z0 := grew1 hb1
  have B0 := below_call hb1
  clear hb1
  go_loopw [9] (fun s9 wr => ∃ (k : Nat), s9 = .int .i64 k ∧ k ≤ 2 ∧ wr.cell? ⟨w.heap.size, 0, none⟩ = some (.slice (some ⟨b, off, none⟩) W.length cap) ∧ w.heap.size < wr.heap.size ∧ Below w.heap.size w wr) (fun s9 _ => 2 - (intOf s9).toNat)
  case atStart => exact ⟨0, rfl, by omega, k0, z0, B0⟩
  case round =>
    clear k0 z0 B0 w1
    obtain ⟨k, rfl, hk, kr, zr, hB⟩ := hrel
    match k, hk with
    | 0, _ =>
      by_cases hw : (wrongOf W F T false).1 = 0
      · have P := wrong_ok hw
        have hbf : (becFault W roots F T false).1 = 0 := by unfold becFault; rw [if_pos h]; exact hw
        have H1 : Hid (∀ w0, Below w.heap.size w w0 → Calls Try.prog 21 #[heapV (some ⟨b, off, none⟩) W.length cap, .slice fad F.length fc, .slice tad T.length tc, .slice rad roots.length rcap] w0 fun e w' => CollectAns (renW (otherP false (F.zip T)) W) (roots.map (otherP false (F.zip T))) w0.heap.size e w' ∧ Below w0.heap.size w0 w') :=
          fun w0 hb => one_yes W F T roots _ fad tad rad cap fc tc rcap w0 (hr.below hb) (hF.below hb) (hT.below hb) (hroots.below hb) hn hrl hbf
        have H8 : Hid (∀ w0, Below w.heap.size w w0 → Calls Try.prog 23 #[heapV (some ⟨b, off, none⟩) W.length cap, .slice fad F.length fc, .slice tad T.length tc, .bool false] w0 fun e w' => e = .returned (.agg #[.int .i64 0, .int .i64 0]) ∧ Below w0.heap.size w0 w') := fun w0 hb => by
          have := HWr.out false w0 hb; rwa [P.wrong] at this
        have H9 : Hid (∀ w0, Below w.heap.size w w0 → Calls Try.prog 24 #[heapV (some ⟨b, off, none⟩) W.length cap, .slice fad F.length fc, .slice tad T.length tc, .slice rad roots.length rcap, .bool false] w0 fun e w' => RBecAns (renW (otherP false (F.zip T)) W) (roots.map (otherP false (F.zip T))) w0.heap.size e w' ∧ Below w0.heap.size w0 w') := fun w0 hb => HBe.out false w0 hb P.long
        have hKl : (renW (otherP false (F.zip T)) W).length ≤ 2000 := by rw [ren_length h2 hu]; exact hlW
        have hLl : (roots.map (otherP false (F.zip T))).length ≤ 5000 := by rw [List.length_map]; exact hrl
        generalize renW (otherP false (F.zip T)) W = K at *
        generalize roots.map (otherP false (F.zip T)) = L at *
        have hKK : (K == K) = true := by simp
        have hLL : (L == L) = true := by simp
        clear hw P hbf HWr HBe h hr hF hT hroots h2 hu hlW
        go_wp2_with (first | (go_at_call 21; refine (H1.out _ hB).mono ?_; rintro e w1 ⟨⟨g, c, g', c', rfl, hg, hg', hownK, hownL⟩, hb1⟩; have k1 := through hb1 kr zr; have z1 : w.heap.size < w1.heap.size := (Nat.lt_of_lt_of_le zr hb1.size); have B1 : Below w.heap.size w w1 := hB.trans (hb1.mono hB.size); have S0 := Stand.new (v := sl g K.length c) (A := 0) (B := 0) (t := 24) (t' := 28) B1 k1 z1; have hrK := Reads.of_own ((hownK.alloc (.cells #[sl g K.length c] 24)).alloc (.cells #[.int .i64 0, .int .i64 0] 28)); have hrL := Reads.of_own ((hownL.alloc (.cells #[sl g K.length c] 24)).alloc (.cells #[.int .i64 0, .int .i64 0] 28)); have SX := S0; obtain ⟨pb, px, ph, pa, pc, pzh, pza, pzb, plo, phi⟩ := SX; have pX0 := Nat.lt_of_succ_lt phi) | (go_at_call 11; refine (H7.out _ S0.bel).mono ?_; rintro e w3 ⟨rfl, hb3⟩; have S3 := S0.below hb3; have SX := S3; obtain ⟨rb, rx, rh, ra, rc, rzh, rza, rzb, rlo, rhi⟩ := SX; have rX0 := Nat.lt_of_succ_lt rhi; have BA : Below w.heap.size w (w3.alloc (.cells #[.int .i64 0, .int .i64 0] 28)) := S3.bel.alloc (by omega) _; have nX : ¬ w1.heap.size + 1 = w3.heap.size := (by omega); have nX' : ¬ w3.heap.size = w1.heap.size + 1 := (by omega); have nX0 : ¬ w1.heap.size = w3.heap.size := (by omega); have nX0' : ¬ w3.heap.size = w1.heap.size := (by omega); have rx0 : w.heap.size < w3.heap.size := (by omega); have hrK3 := hrK.below hb3; have hrL3 := hrL.below hb3) | (go_at_call 23; refine (H8.out _ BA).mono ?_; rintro e w4 ⟨rfl, hb4⟩; obtain ⟨y0, y1, yf0, yf1, yz⟩ := box2F hb4; have Q4 : Below w3.heap.size w3 ((w4.setCell ⟨w3.heap.size, 0, none⟩ (.int .i64 0)).setCell ⟨w3.heap.size, 1, none⟩ (.int .i64 0)) := (((below_call hb4).setCell (p := ⟨w3.heap.size, 0, none⟩) (Nat.le_refl _) _).setCell (p := ⟨w3.heap.size, 1, none⟩) (Nat.le_refl _) _); have S4 := S3.below Q4; have SX := S4; obtain ⟨sb, sx, sh, sa, sc, szh, sza, szb, slo, shi⟩ := SX; have sX0 := Nat.lt_of_succ_lt shi; have S5 := S3.below (below_call hb4); have SX := S5; obtain ⟨tb, tx, th, ta, tc, tzh, tza, tzb, tlo, thi⟩ := SX; have tX0 := Nat.lt_of_succ_lt thi; have hrK4 := hrK3.below Q4; have hrL4 := hrL3.below Q4) | (go_at_call 24; refine (H9.out _ S4.bel).mono ?_; rintro e w5 ⟨⟨g5, c5, v5, rfl, hownK5, hownL5⟩, hb5⟩; have S6 := S4.below hb5; have SX := S6; obtain ⟨ub, ux, uh, ua, uc, uzh, uza, uzb, ulo, uhi⟩ := SX; have uX0 := Nat.lt_of_succ_lt uhi; have hrK5 := hrK4.below hb5; have hrL5 := hrL4.below hb5; have hrKd := Reads.of_own hownK5; have hrLd := Reads.of_own hownL5; have bA : Below w5.heap.size w5 (w5.alloc (.cells #[sl g5 K.length c5] 24)) := (Below.refl _ _).alloc (Nat.le_refl _) _) | (go_at_call 18; refine (lheaps_any K K _ _ _ (hrK5.below bA) (hrKd.below bA) (by omega)).mono ?_; rw [hKK]; rintro e w6 ⟨rfl, hb6⟩; have bB := bA.trans (hb6.mono bA.size); have S7 := S6.below bB; have SX := S7; obtain ⟨vb, vx, vh, va, vc, vzh, vza, vzb, vlo, vhi⟩ := SX; have vX0 := Nat.lt_of_succ_lt vhi) | (go_at_call 13; refine (ints_any L L _ _ _ (hrL5.below bB) (hrLd.below bB) (by omega)).mono ?_; rw [hLL]; rintro e w7 ⟨rfl, mm, rfl⟩))
        go_roundw
        case rel => exact ⟨1, by first | rfl | simp, by omega, by first | exact vx | simpa using vx, by first | exact Nat.lt_trans (Nat.lt_trans vlo (Nat.lt_succ_self _)) vhi | (simp; omega), below_drewN vb mm⟩
        case measure => simp [intOf]
      · have hbf : (becFault W roots F T false).1 ≠ 0 := by unfold becFault; rw [if_pos h]; exact hw
        have hbe : becFault W roots F T false = wrongOf W F T false := by unfold becFault; rw [if_pos h]
        have H1 : Hid (∀ w0, Below w.heap.size w w0 → Calls Try.prog 21 #[heapV (some ⟨b, off, none⟩) W.length cap, .slice fad F.length fc, .slice tad T.length tc, .slice rad roots.length rcap] w0 fun e w' => FaultAns (wrongOf W F T false) e ∧ Below w0.heap.size w0 w') :=
          fun w0 hb => by have := one_fault W F T roots _ fad tad rad cap fc tc rcap w0 (by unfold maxLen; omega) (hr.below hb) (hF.below hb) (hT.below hb) (hroots.below hb) hn hrl hbf; rwa [hbe] at this
        have H8 : Hid (∀ w0, Below w.heap.size w w0 → Calls Try.prog 23 #[heapV (some ⟨b, off, none⟩) W.length cap, .slice fad F.length fc, .slice tad T.length tc, .bool false] w0 fun e w' => e = .returned (.agg #[.int .i64 (wrongOf W F T false).1, .int .i64 (wrongOf W F T false).2]) ∧ Below w0.heap.size w0 w') := fun w0 hb => HWr.out false w0 hb
        unfold FaultAns at H1
        clear hbe hbf
        generalize wrongOf W F T false = G at *
        have hb0 : (G.1 != 0) = true := by simpa using hw
        clear hw HWr HBe h hr hF hT hroots h2 hu hlW
        go_wp2_with (first | (go_at_call 21; refine (H1.out _ hB).mono ?_; rintro e w1 ⟨rfl, hb1⟩; have k1 := through hb1 kr zr; have z1 : w.heap.size < w1.heap.size := (Nat.lt_of_lt_of_le zr hb1.size); have B1 : Below w.heap.size w w1 := hB.trans (hb1.mono hB.size); have S0 := Stand.new (v := .slice none 0 0) (A := G.1) (B := G.2) (t := 24) (t' := 28) B1 k1 z1; have SX := S0; obtain ⟨pb, px, ph, pa, pc, pzh, pza, pzb, plo, phi⟩ := SX; have pX0 := Nat.lt_of_succ_lt phi) | (go_at_call 11; refine (H7.out _ S0.bel).mono ?_; rintro e w3 ⟨rfl, hb3⟩; have S3 := S0.below hb3; have SX := S3; obtain ⟨rb, rx, rh, ra, rc, rzh, rza, rzb, rlo, rhi⟩ := SX; have rX0 := Nat.lt_of_succ_lt rhi; have BA : Below w.heap.size w (w3.alloc (.cells #[.int .i64 0, .int .i64 0] 28)) := S3.bel.alloc (by omega) _; have nX : ¬ w1.heap.size + 1 = w3.heap.size := (by omega); have nX' : ¬ w3.heap.size = w1.heap.size + 1 := (by omega); have nX0 : ¬ w1.heap.size = w3.heap.size := (by omega); have nX0' : ¬ w3.heap.size = w1.heap.size := (by omega); have rx0 : w.heap.size < w3.heap.size := (by omega)) | (go_at_call 23; refine (H8.out _ BA).mono ?_; rintro e w4 ⟨rfl, hb4⟩; obtain ⟨y0, y1, yf0, yf1, yz⟩ := box2F hb4; have Q4 : Below w3.heap.size w3 ((w4.setCell ⟨w3.heap.size, 0, none⟩ (.int .i64 G.1)).setCell ⟨w3.heap.size, 1, none⟩ (.int .i64 G.2)) := (((below_call hb4).setCell (p := ⟨w3.heap.size, 0, none⟩) (Nat.le_refl _) _).setCell (p := ⟨w3.heap.size, 1, none⟩) (Nat.le_refl _) _); have S4 := S3.below Q4; have SX := S4; obtain ⟨sb, sx, sh, sa, sc, szh, sza, szb, slo, shi⟩ := SX; have sX0 := Nat.lt_of_succ_lt shi; have S5 := S3.below (below_call hb4); have SX := S5; obtain ⟨tb, tx, th, ta, tc, tzh, tza, tzb, tlo, thi⟩ := SX; have tX0 := Nat.lt_of_succ_lt thi))
        go_roundw
        case rel => exact ⟨1, by first | rfl | simp, by omega, sx, Nat.lt_trans (Nat.lt_trans slo (Nat.lt_succ_self _)) shi, sb⟩
        case measure => simp [intOf]
    | 1, _ =>
      by_cases hw : (wrongOf W F T true).1 = 0
      · have P := wrong_ok hw
        have hbf : (becFault W roots F T true).1 = 0 := by unfold becFault; rw [if_pos h]; exact hw
        have H2 : Hid (∀ w0, Below w.heap.size w w0 → Calls Try.prog 22 #[heapV (some ⟨b, off, none⟩) W.length cap, .slice fad F.length fc, .slice tad T.length tc, .slice rad roots.length rcap] w0 fun e w' => CollectAns (renW (otherP true (F.zip T)) W) (roots.map (otherP true (F.zip T))) w0.heap.size e w' ∧ Below w0.heap.size w0 w') :=
          fun w0 hb => two_yes W F T roots _ fad tad rad cap fc tc rcap w0 (hr.below hb) (hF.below hb) (hT.below hb) (hroots.below hb) hn hrl hbf
        have H8 : Hid (∀ w0, Below w.heap.size w w0 → Calls Try.prog 23 #[heapV (some ⟨b, off, none⟩) W.length cap, .slice fad F.length fc, .slice tad T.length tc, .bool true] w0 fun e w' => e = .returned (.agg #[.int .i64 0, .int .i64 0]) ∧ Below w0.heap.size w0 w') := fun w0 hb => by
          have := HWr.out true w0 hb; rwa [P.wrong] at this
        have H9 : Hid (∀ w0, Below w.heap.size w w0 → Calls Try.prog 24 #[heapV (some ⟨b, off, none⟩) W.length cap, .slice fad F.length fc, .slice tad T.length tc, .slice rad roots.length rcap, .bool true] w0 fun e w' => RBecAns (renW (otherP true (F.zip T)) W) (roots.map (otherP true (F.zip T))) w0.heap.size e w' ∧ Below w0.heap.size w0 w') := fun w0 hb => HBe.out true w0 hb P.long
        have hKl : (renW (otherP true (F.zip T)) W).length ≤ 2000 := by rw [ren_length h2 hu]; exact hlW
        have hLl : (roots.map (otherP true (F.zip T))).length ≤ 5000 := by rw [List.length_map]; exact hrl
        generalize renW (otherP true (F.zip T)) W = K at *
        generalize roots.map (otherP true (F.zip T)) = L at *
        have hKK : (K == K) = true := by simp
        have hLL : (L == L) = true := by simp
        clear hw P hbf HWr HBe h hr hF hT hroots h2 hu hlW
        go_wp2_with (first | (go_at_call 21; refine (HW1.out _ hB).mono ?_; rintro e w1 ⟨⟨ad1, n1, c1, v1, A1, B1', rfl⟩, hb1⟩; have k1 := through hb1 kr zr; have z1 : w.heap.size < w1.heap.size := (Nat.lt_of_lt_of_le zr hb1.size); have B1 : Below w.heap.size w w1 := hB.trans (hb1.mono hB.size); have S0 := Stand.new (v := .slice ad1 n1 c1) (A := A1) (B := B1') (t := 24) (t' := 28) B1 k1 z1; have SX := S0; obtain ⟨pb, px, ph, pa, pc, pzh, pza, pzb, plo, phi⟩ := SX; have pX0 := Nat.lt_of_succ_lt phi) | (go_at_call 22; refine (H2.out _ S0.bel).mono ?_; rintro e w2 ⟨⟨g, c, g', c', rfl, hg, hg', hownK, hownL⟩, hb2⟩; have S1 := S0.below hb2; have SX := S1; obtain ⟨qb, qx, qh, qa, qc, qzh, qza, qzb, qlo, qhi⟩ := SX; have qX0 := Nat.lt_of_succ_lt qhi; have S0 := S1.set (sl g K.length c) 0 0; have SX := S0; obtain ⟨pb, px, ph, pa, pc, pzh, pza, pzb, plo, phi⟩ := SX; have pX0 := Nat.lt_of_succ_lt phi; have hgX : w1.heap.size + 1 < g := (by simp at hg; omega); have hgX' : w1.heap.size + 1 < g' := (by simp at hg'; omega); have hrK := Reads.of_own (own_set' (own_set' (own_set' hownK (a := ⟨w1.heap.size, 0, none⟩) (by dsimp only; omega) (sl g K.length c)) (a := ⟨w1.heap.size + 1, 0, none⟩) (by dsimp only; omega) (.int .i64 0)) (a := ⟨w1.heap.size + 1, 1, none⟩) (by dsimp only; omega) (.int .i64 0)); have hrL := Reads.of_own (own_set' (own_set' (own_set' hownL (a := ⟨w1.heap.size, 0, none⟩) (by dsimp only; omega) (sl g K.length c)) (a := ⟨w1.heap.size + 1, 0, none⟩) (by dsimp only; omega) (.int .i64 0)) (a := ⟨w1.heap.size + 1, 1, none⟩) (by dsimp only; omega) (.int .i64 0))) | (go_at_call 11; refine (H7.out _ S0.bel).mono ?_; rintro e w3 ⟨rfl, hb3⟩; have S3 := S0.below hb3; have SX := S3; obtain ⟨rb, rx, rh, ra, rc, rzh, rza, rzb, rlo, rhi⟩ := SX; have rX0 := Nat.lt_of_succ_lt rhi; have BA : Below w.heap.size w (w3.alloc (.cells #[.int .i64 0, .int .i64 0] 28)) := S3.bel.alloc (by omega) _; have nX : ¬ w1.heap.size + 1 = w3.heap.size := (by omega); have nX' : ¬ w3.heap.size = w1.heap.size + 1 := (by omega); have nX0 : ¬ w1.heap.size = w3.heap.size := (by omega); have nX0' : ¬ w3.heap.size = w1.heap.size := (by omega); have rx0 : w.heap.size < w3.heap.size := (by omega); have hrK3 := hrK.below hb3; have hrL3 := hrL.below hb3) | (go_at_call 23; refine (H8.out _ BA).mono ?_; rintro e w4 ⟨rfl, hb4⟩; obtain ⟨y0, y1, yf0, yf1, yz⟩ := box2F hb4; have Q4 : Below w3.heap.size w3 ((w4.setCell ⟨w3.heap.size, 0, none⟩ (.int .i64 0)).setCell ⟨w3.heap.size, 1, none⟩ (.int .i64 0)) := (((below_call hb4).setCell (p := ⟨w3.heap.size, 0, none⟩) (Nat.le_refl _) _).setCell (p := ⟨w3.heap.size, 1, none⟩) (Nat.le_refl _) _); have S4 := S3.below Q4; have SX := S4; obtain ⟨sb, sx, sh, sa, sc, szh, sza, szb, slo, shi⟩ := SX; have sX0 := Nat.lt_of_succ_lt shi; have S5 := S3.below (below_call hb4); have SX := S5; obtain ⟨tb, tx, th, ta, tc, tzh, tza, tzb, tlo, thi⟩ := SX; have tX0 := Nat.lt_of_succ_lt thi; have hrK4 := hrK3.below Q4; have hrL4 := hrL3.below Q4) | (go_at_call 24; refine (H9.out _ S4.bel).mono ?_; rintro e w5 ⟨⟨g5, c5, v5, rfl, hownK5, hownL5⟩, hb5⟩; have S6 := S4.below hb5; have SX := S6; obtain ⟨ub, ux, uh, ua, uc, uzh, uza, uzb, ulo, uhi⟩ := SX; have uX0 := Nat.lt_of_succ_lt uhi; have hrK5 := hrK4.below hb5; have hrL5 := hrL4.below hb5; have hrKd := Reads.of_own hownK5; have hrLd := Reads.of_own hownL5; have bA : Below w5.heap.size w5 (w5.alloc (.cells #[sl g5 K.length c5] 24)) := (Below.refl _ _).alloc (Nat.le_refl _) _) | (go_at_call 18; refine (lheaps_any K K _ _ _ (hrK5.below bA) (hrKd.below bA) (by omega)).mono ?_; rw [hKK]; rintro e w6 ⟨rfl, hb6⟩; have bB := bA.trans (hb6.mono bA.size); have S7 := S6.below bB; have SX := S7; obtain ⟨vb, vx, vh, va, vc, vzh, vza, vzb, vlo, vhi⟩ := SX; have vX0 := Nat.lt_of_succ_lt vhi) | (go_at_call 13; refine (ints_any L L _ _ _ (hrL5.below bB) (hrLd.below bB) (by omega)).mono ?_; rw [hLL]; rintro e w7 ⟨rfl, mm, rfl⟩))
        go_roundw
        case rel => exact ⟨2, by first | rfl | simp, by omega, by first | exact vx | simpa using vx, by first | exact Nat.lt_trans (Nat.lt_trans vlo (Nat.lt_succ_self _)) vhi | (simp; omega), below_drewN vb mm⟩
        case measure => simp [intOf]
      · have hbf : (becFault W roots F T true).1 ≠ 0 := by unfold becFault; rw [if_pos h]; exact hw
        have hbe : becFault W roots F T true = wrongOf W F T true := by unfold becFault; rw [if_pos h]
        have H2 : Hid (∀ w0, Below w.heap.size w w0 → Calls Try.prog 22 #[heapV (some ⟨b, off, none⟩) W.length cap, .slice fad F.length fc, .slice tad T.length tc, .slice rad roots.length rcap] w0 fun e w' => FaultAns (wrongOf W F T true) e ∧ Below w0.heap.size w0 w') :=
          fun w0 hb => by have := two_fault W F T roots _ fad tad rad cap fc tc rcap w0 (by unfold maxLen; omega) (hr.below hb) (hF.below hb) (hT.below hb) (hroots.below hb) hn hrl hbf; rwa [hbe] at this
        have H8 : Hid (∀ w0, Below w.heap.size w w0 → Calls Try.prog 23 #[heapV (some ⟨b, off, none⟩) W.length cap, .slice fad F.length fc, .slice tad T.length tc, .bool true] w0 fun e w' => e = .returned (.agg #[.int .i64 (wrongOf W F T true).1, .int .i64 (wrongOf W F T true).2]) ∧ Below w0.heap.size w0 w') := fun w0 hb => HWr.out true w0 hb
        unfold FaultAns at H2
        clear hbe hbf
        generalize wrongOf W F T true = G at *
        have hb0 : (G.1 != 0) = true := by simpa using hw
        clear hw HWr HBe h hr hF hT hroots h2 hu hlW
        go_wp2_with (first | (go_at_call 21; refine (HW1.out _ hB).mono ?_; rintro e w1 ⟨⟨ad1, n1, c1, v1, A1, B1', rfl⟩, hb1⟩; have k1 := through hb1 kr zr; have z1 : w.heap.size < w1.heap.size := (Nat.lt_of_lt_of_le zr hb1.size); have B1 : Below w.heap.size w w1 := hB.trans (hb1.mono hB.size); have S0 := Stand.new (v := .slice ad1 n1 c1) (A := A1) (B := B1') (t := 24) (t' := 28) B1 k1 z1; have SX := S0; obtain ⟨pb, px, ph, pa, pc, pzh, pza, pzb, plo, phi⟩ := SX; have pX0 := Nat.lt_of_succ_lt phi) | (go_at_call 22; refine (H2.out _ S0.bel).mono ?_; rintro e w2 ⟨rfl, hb2⟩; have S1 := S0.below hb2; have SX := S1; obtain ⟨qb, qx, qh, qa, qc, qzh, qza, qzb, qlo, qhi⟩ := SX; have qX0 := Nat.lt_of_succ_lt qhi; have S0 := S1.set (.slice none 0 0) G.1 G.2; have SX := S0; obtain ⟨pb, px, ph, pa, pc, pzh, pza, pzb, plo, phi⟩ := SX; have pX0 := Nat.lt_of_succ_lt phi) | (go_at_call 11; refine (H7.out _ S0.bel).mono ?_; rintro e w3 ⟨rfl, hb3⟩; have S3 := S0.below hb3; have SX := S3; obtain ⟨rb, rx, rh, ra, rc, rzh, rza, rzb, rlo, rhi⟩ := SX; have rX0 := Nat.lt_of_succ_lt rhi; have BA : Below w.heap.size w (w3.alloc (.cells #[.int .i64 0, .int .i64 0] 28)) := S3.bel.alloc (by omega) _; have nX : ¬ w1.heap.size + 1 = w3.heap.size := (by omega); have nX' : ¬ w3.heap.size = w1.heap.size + 1 := (by omega); have nX0 : ¬ w1.heap.size = w3.heap.size := (by omega); have nX0' : ¬ w3.heap.size = w1.heap.size := (by omega); have rx0 : w.heap.size < w3.heap.size := (by omega)) | (go_at_call 23; refine (H8.out _ BA).mono ?_; rintro e w4 ⟨rfl, hb4⟩; obtain ⟨y0, y1, yf0, yf1, yz⟩ := box2F hb4; have Q4 : Below w3.heap.size w3 ((w4.setCell ⟨w3.heap.size, 0, none⟩ (.int .i64 G.1)).setCell ⟨w3.heap.size, 1, none⟩ (.int .i64 G.2)) := (((below_call hb4).setCell (p := ⟨w3.heap.size, 0, none⟩) (Nat.le_refl _) _).setCell (p := ⟨w3.heap.size, 1, none⟩) (Nat.le_refl _) _); have S4 := S3.below Q4; have SX := S4; obtain ⟨sb, sx, sh, sa, sc, szh, sza, szb, slo, shi⟩ := SX; have sX0 := Nat.lt_of_succ_lt shi; have S5 := S3.below (below_call hb4); have SX := S5; obtain ⟨tb, tx, th, ta, tc, tzh, tza, tzb, tlo, thi⟩ := SX; have tX0 := Nat.lt_of_succ_lt thi))
        go_roundw
        case rel => exact ⟨2, by first | rfl | simp, by omega, sx, Nat.lt_trans (Nat.lt_trans slo (Nat.lt_succ_self _)) shi, sb⟩
        case measure => simp [intOf]
    | 2, _ =>
      go_wp2_with fail
      go_ret
      exact ⟨rfl, hB⟩

theorem walk (W F T roots : List Int) (ad fad tad rad : Option Addr) (cap fc tc rcap : Nat) (w : World) (hm : W.length ≤ maxLen) (hfm : F.length ≤ maxLen) (htm : T.length ≤ maxLen) (hrm : roots.length ≤ maxLen) (hr : WordsAt ad W w) (hF : RootsAt fad F w) (hT : RootsAt tad T w) (hroots : RootsAt rad roots w) :
    Calls Try.prog 8 #[.agg #[.slice ad W.length cap], .slice fad F.length fc, .slice tad T.length tc, .slice rad roots.length rcap] w fun e w' => e = .returned (.bool true) ∧ Below w.heap.size w w' := by
  by_cases hl : W.length ≤ 5000 ∧ F.length ≤ 5000 ∧ T.length ≤ 5000 ∧ roots.length ≤ 5000
  · obtain ⟨l1, l2, l3, l4⟩ := hl
    by_cases h : (rootsOf W roots).1 = 0
    · exact walk_yes W F T roots ad fad tad rad cap fc tc rcap w l1 l2 l3 l4 hr hF hT hroots h
    · exact walk_no W F T roots ad fad tad rad cap fc tc rcap w l1 l2 l3 l4 hr hF hT hroots h
  · exact big ad fad tad rad W.length cap F.length fc T.length tc roots.length rcap w hm hfm htm hrm (by omega)

set_option maxRecDepth 100000 in
theorem lifted (os : Os) (started : os.Started) (H : Type) (enc : TypeId × Value → H) :
    ReturnsInHanded {} Try.checked os 8 .any (Rows.becomeDoesSpec.pre6 enc Try.prog Try.f8 Rows.becomeDoesRow.domain false) (Rows.becomeDoesSpec.post enc Try.prog Try.f8 false true false false) := by
  refine returnsInHanded_of_change (C := Try.checked) own started (by kernel_rfl) Try.func8
    (ChangeSpec.witness6 (enc := enc) (C := Try.checked) false ⟨#[], #[.agg #[.slice none 0 0], .slice none 0 0, .slice none 0 0, .slice none 0 0], []⟩ 8 (by kernel_rfl) (by kernel_rfl) (by kernel_rfl) (by kernel_rfl)) ?_
  intro W base args ds gs before hval0 hW hcnd _
  have hval : ∀ (j : Nat) t v, Try.f8.params[j]? = some t → args[j]? = some v → Value.okWide Try.prog W .any base t v := hval0
  have hW' := hW
  obtain ⟨p, q, hA0, hV, rfl, hfz, hnd⟩ := hW
  have hA : DataW.TrodAll enc Try.prog W 0 (fun _ => true) true Try.f8.params.toList args.toList ds p := hA0
  rw [Try.params8] at hA hval
  obtain ⟨v0, vs0, d0, ds0, p0, q0, hargs, rfl, rfl, h0, r0⟩ := trodAll_cons hA
  obtain ⟨v1, vs1, d1, ds1, p1, q1, rfl, rfl, rfl, h1, r1⟩ := trodAll_cons r0
  obtain ⟨v2, vs2, d2, ds2, p2, q2, rfl, rfl, rfl, h2, r2⟩ := trodAll_cons r1
  obtain ⟨v3, vs3, d3, ds3, p3, q3, rfl, rfl, rfl, h3, r3⟩ := trodAll_cons r2
  obtain ⟨rfl, rfl, rfl⟩ := trodAll_nil r3
  obtain rfl : args = #[v0, v1, v2, v3] := by cases args; simp_all
  obtain ⟨rfl, rfl⟩ := trodVars_none hV
  have lt0 : ∀ x ∈ p0, x.block < W.heap.size := by obtain ⟨m, hm⟩ := h0; exact DataW.trod_lt m _ _ _ hm
  have lt1 : ∀ x ∈ p1, x.block < W.heap.size := by obtain ⟨m, hm⟩ := h1; exact DataW.trod_lt m _ _ _ hm
  have lt2 : ∀ x ∈ p2, x.block < W.heap.size := by obtain ⟨m, hm⟩ := h2; exact DataW.trod_lt m _ _ _ hm
  have lt3 : ∀ x ∈ p3, x.block < W.heap.size := by obtain ⟨m, hm⟩ := h3; exact DataW.trod_lt m _ _ _ hm
  obtain ⟨ad0, cap0, L0, rfl, hm0, hr0⟩ := open_heap (hval 0 24 v0 rfl rfl) h0
  obtain ⟨ad1, cap1, L1, rfl, hm1, hr1⟩ := open_ints' (hval 1 22 v1 rfl rfl) h1
  obtain ⟨ad2, cap2, L2, rfl, hm2, hr2⟩ := open_ints' (hval 2 22 v2 rfl rfl) h2
  obtain ⟨ad3, cap3, L3, rfl, hm3, hr3⟩ := open_ints' (hval 3 22 v3 rfl rfl) h3
  clear hA0 hval0
  refine (walk L0 L1 L2 L3 ad0 ad1 ad2 ad3 cap0 cap1 cap2 cap3 W hm0 hm1 hm2 hm3 hr0 hr1 hr2 hr3).mono fun e W' ⟨he, bel⟩ => ?_
  subst he
  exact ⟨_, rfl, _, _, _, [], _, [], hW', trodAll_mk1 (shut_bool lt4 _), (trodAll_cons_mk (Below.trod laidOut (by kernel_rfl) (of_decide_eq_true (by kernel_rfl)) h0 bel lt0) (trodAll_cons_mk (Below.trod laidOut (by kernel_rfl) (of_decide_eq_true (by kernel_rfl)) h1 bel lt1) (trodAll_cons_mk (Below.trod laidOut (by kernel_rfl) (of_decide_eq_true (by kernel_rfl)) h2 bel lt2) (trodAll_cons_mk (Below.trod laidOut (by kernel_rfl) (of_decide_eq_true (by kernel_rfl)) h3 bel lt3) trodAll_mk0)))), rfl, bel.frame _, fun h => by cases h⟩

theorem over : Rows.becomeDoesRow.holds Try.pinned (OpenSpec.ofChange Rows.becomeDoesSpec) :=
  OpenClaim.holds_of_wide 8 Try.f8 rfl rfl rfl rfl rfl rfl rfl ⟨rfl, rfl, rfl, rfl, rfl⟩ rfl rfl rfl rfl rfl (by kernel_rfl) Try.func8 (by kernel_rfl)
    (of_decide_eq_true (by kernel_rfl)) (by unfold Func.isWrapper; first | (rw [if_pos (by decide +kernel)]; kernel_rfl) | (rw [if_neg (by decide +kernel)]; exact ⟨rfl, rfl⟩))
    (fun os started H enc _ => lifted os started H enc)

end Go.Proofs.Ytgggmdanpdggpab.becomeDoes
namespace Go.Proofs.Ytgggmdanpdggpab
/-- The statement. -/
theorem becomeDoes_holds : Rows.BecomeDoesSaid := becomeDoes.over
#print axioms becomeDoes_holds
end Go.Proofs.Ytgggmdanpdggpab
