/- TriAlone holds for every heap and all roots that can come in, with no condition: where nothing but scans is done, as many as there are things, what is freed is what is not reached. -/
import Derived.Test.YthdhaokjibfjdaaAlKitX
import Derived.Test.YthdhaokjibfjdaaCountGoX
namespace Go.Proofs.Ythdhaokjibfjdaa.triAlone
open Go.ChangeShapes Go.WideShapes Go.ChangeAt Go.RowKit Go.Joins Go.Deep

theorem big (ad rad : Option Addr) (n cap rn rc : Nat) (w : World) (hm : n ≤ maxLen) (hrm : rn ≤ maxLen) (h : 5000 < n ∨ 5000 < rn) :
    Calls Try.prog 3 #[.agg #[.slice ad n cap], .slice rad rn rc] w fun e w' => e = .returned (.bool true) ∧ Below w.heap.size w w' := by
  go_enter Try.func3, Try.ntmps3
  go_wp2_with (go_at_call 5; refine (kvast_yes ad rad n cap rn rc _ hm hrm h).mono ?_; rintro e w1 ⟨rfl, hb1⟩)
  go_ret
  exact ⟨rfl, below_call hb1⟩

set_option maxRecDepth 20000 in
set_option maxHeartbeats 8000000 in
theorem walk_no (W roots : List Int) (ad rad : Option Addr) (cap rcap : Nat) (w : World) (hl5 : W.length ≤ 5000) (hrl : roots.length ≤ 5000) (hr : WordsAt ad W w) (hroots : RootsAt rad roots w) (h : (rootsOf W roots).1 ≠ 0) :
    Calls Try.prog 3 #[.agg #[.slice ad W.length cap], .slice rad roots.length rcap] w fun e w' => e = .returned (.bool true) ∧ Below w.heap.size w w' := by
  have HR : Hid (∀ w0, Below w.heap.size w w0 → WordsAt ad W w0) := fun w0 hb => hr.below hb
  have HO : Hid (∀ w0, Below w.heap.size w w0 → RootsAt rad roots w0) := fun w0 hb => hroots.below hb
  have h6 : Hid (∀ w0 g c, Below w.heap.size w w0 → OpsAt (some ⟨g, 0, none⟩) (List.replicate 667 scan1) w0 → Calls Try.prog 6 #[heapV ad W.length cap, .slice rad roots.length rcap, .slice (some ⟨g, 0, none⟩) 667 c] w0 fun e w' => e = .returned (.tuple #[.agg #[.slice none 0 0, .slice none 0 0, .slice none 0 0, .bool false, .slice none 0 0], .agg #[.int .i64 (rootsOf W roots).1, .int .i64 (rootsOf W roots).2]]) ∧ Below w0.heap.size w0 w') := fun w0 g c hb ho => by
    have := tplay_no W roots (List.replicate 667 scan1) ad rad (some ⟨g, 0, none⟩) cap rcap c w0 (by unfold maxLen; omega) (hr.below hb) (hroots.below hb) ho hrl (by rw [List.length_replicate]; decide) h
    rw [List.length_replicate] at this; exact this
  have h7 : Hid (∀ w0, Below w.heap.size w w0 → Calls Try.prog 7 #[heapV ad W.length cap, .slice rad roots.length rcap] w0 fun e w' => e = .returned (.tuple #[.slice none 0 0, .agg #[.int .i64 (rootsOf W roots).1, .int .i64 (rootsOf W roots).2]]) ∧ Below w0.heap.size w0 w') := fun w0 hb => hreach_no W roots ad rad cap rcap w0 (by unfold maxLen; omega) (hr.below hb) (hroots.below hb) hrl h
  have h8 : Hid (∀ w0, Below w.heap.size w w0 → Calls Try.prog 8 #[heapV ad W.length cap, .slice rad roots.length rcap] w0 fun e w' => e = .returned (.tuple #[.slice none 0 0, .agg #[.int .i64 (rootsOf W roots).1, .int .i64 (rootsOf W roots).2]]) ∧ Below w0.heap.size w0 w') := fun w0 hb => trial_no W roots ad rad cap rcap w0 (by unfold maxLen; omega) (hr.below hb) (hroots.below hb) hrl h
  generalize rootsOf W roots = G at *
  have hbG : (G.1 != 0) = true := by simpa using h
  clear h
  clear hr hroots
  obtain ⟨iO, zO, hiO, hO0, hO1, hO2, hO3⟩ := infoOp
  have once1 : Hid (1 = 1) := rfl
  go_enter Try.func3, Try.ntmps3
  go_wp2_with (first | (go_at_call 5; refine (kvast_no ad rad _ cap _ rcap _ hl5 hrl).mono ?_; rintro e w1 ⟨rfl, hb1⟩; have k1 := box_one hb1; have z1 := grew1 hb1; have hW1 := below_call hb1))
  go_loopw [5, 6] (fun v s wr => ∃ (n : Nat), s = .int .i64 n ∧ n ≤ 667 ∧ wr.ownsRow w1.heap.size 28 6 v n (scansV n) ∧ Below w1.heap.size w1 wr) (fun _ s _ => 667 - (intOf s).toNat)
  case atStart => exact ⟨0, rfl, Nat.zero_le _, World.ownsRow_nil _ _ _ _, Below.refl _ _⟩
  case round =>
    obtain ⟨n, rfl, hn, hown, hB⟩ := hrel
    by_cases hlt : n < 667
    · have hii : (n : Int) < 667 := by omega
      have hwi := wrap_id (x := (n : Int) + 1) (by omega) (by omega)
      have hsz := hB.size
      go_wp2_with (at_builtin; refine wpList_append_own _ rfl (.tmp 21) (.tmp 23) 26 rfl w1.heap.size 28 iO zO 6 48 tyOps hiO hO0 hO1 hO2 hO3 (by decide) _ n (scansV n) rfl (hown.alloc _) ⟨wr.heap.size, 0, none⟩ 1 1 opCells rfl (by simp) (op_news _ _) op_one (by unfold maxLen; omega) (by omega) (by simp; omega) ?_; intro v' w3 hown3 hgrow3 hnil3)
      have hB3 : Below w1.heap.size w1 w3 := (hB.alloc hB.size _).grown hgrow3 (by have := hB.size; simp; omega) (fun k hk => (hown.lt k hk).1)
      go_roundw
      case rel => exact ⟨n + 1, by first | rfl | simp, by omega, by rw [scans_succ]; exact hown3, hB3⟩
      case measure => simp [intOf]; omega
    · have he : n = 667 := by omega
      subst he
      obtain ⟨g, c, hv⟩ : ∃ g c, _ = sl g 667 c := by
        rcases hown.2 with ⟨_, h0⟩ | ⟨g, cap', cur, h0, _⟩
        · omega
        · exact ⟨g, cap', h0⟩
      subst hv
      have HOps : Hid (∀ w0, Below wr.heap.size wr w0 → OpsAt (some ⟨g, 0, none⟩) (List.replicate 667 scan1) w0) := fun w0 hb => (scans_at hown).below hb
      have k2 := through hB k1 z1
      have z2 : w.heap.size < wr.heap.size := Nat.lt_of_lt_of_le z1 hB.size
      have hW2 := hW1.trans (hB.mono hW1.size)
      clear hown hB k1
      go_upto_region 11 with (first | (have o := once1; clear once1 o; go_at_call 6; refine (play9_any wr.heap.size (wr.heap.size + 1) g c _ ((row9 wr).alloc _) (by have := root9 (wr.alloc (.cells #[.int .i64 0, .int .i64 3, .int .i64 0, .int .i64 1, .int .i64 0, .int .i64 0, .int .i64 2, .int .i64 4, .int .i64 0] 3)); simpa using this) (HOps.out _ (((Below.refl _ _).alloc (Nat.le_refl _) _).alloc (by simp) _))).mono ?_; rintro e w3 ⟨⟨a0, n0, c0, a1, n1, c1, a2, n2, c2, g4, c4, rfl, hc4, hg4⟩, hb3⟩))
      have hbr3 : Below wr.heap.size wr w3 := (((Below.refl _ _).alloc (Nat.le_refl _) _).alloc (by simp) _).trans (hb3.mono (by simp; omega))
      obtain ⟨w5, hw5⟩ : ∃ w5, w5 = (w3.alloc (.cells #[.slice a0 n0 c0, .slice a1 n1 c1, .slice a2 n2 c2, .bool true, sl g4 1 c4] 30)).alloc (.cells #[.int .i64 0, .int .i64 0] 33) := ⟨_, rfl⟩
      have hb35 : Below w3.heap.size w3 w5 := by rw [hw5]; exact ((Below.refl _ _).alloc (Nat.le_refl _) _).alloc (by simp) _
      have qp : Bx w5 w3.heap.size (.slice a0 n0 c0) (.slice a1 n1 c1) (.slice a2 n2 c2) (.bool true) (sl g4 1 c4) := by rw [hw5]; exact (Bx.new _ _ _ _ _ _).same ((Below.refl _ _).alloc (Nat.le_refl _) _)
      have qf : Fx w5 (w3.heap.size + 1) (.int .i64 0) (.int .i64 0) := by rw [hw5]; have := Fx.new (w3.alloc (.cells #[.slice a0 n0 c0, .slice a1 n1 c1, .slice a2 n2 c2, .bool true, sl g4 1 c4] 30)) (.int .i64 0) (.int .i64 0); simpa using this
      rw [← hw5]
      clear hw5
      have hbr5 := hbr3.trans (hb35.mono hbr3.size)
      have hW5 := hW2.trans (hbr5.mono hW2.size)
      have k5 := through hbr5 k2 z2
      have z35 : w.heap.size < w3.heap.size := Nat.lt_of_lt_of_le z2 hbr3.size
      have z5 : w.heap.size < w5.heap.size := Nat.lt_of_lt_of_le z35 hb35.size
      have hops5 := HOps.out _ hbr5
      clear hc4 hg4 hb3 hbr3 hb35 k2 HOps
      go_upto_region 12 with (first | (go_at_call 6; refine (h6.out _ g c hW5 hops5).mono ?_; rintro e w6 ⟨rfl, hb6⟩; have qp6 := qp.same hb6; have qf6 := qf.same hb6; obtain ⟨⟨x0, x1, x2, x3, x4⟩, xf⟩ := qp6.cells; obtain ⟨⟨y0, y1⟩, yf⟩ := qf6.cells; have hxl := qp6.lt; have hyl := qf6.lt; have k6 := through hb6 k5 z5))
      have hz6 := hb6.size
      have hq5 := qf.lt
      obtain ⟨w7, hw7⟩ : ∃ w7, w7 = _ := ⟨_, rfl⟩
      obtain ⟨qp7, qf7, hB7, hk7⟩ := stored7 qp6 qf6 (.slice none 0 0) (.slice none 0 0) (.slice none 0 0) (.bool false) (.slice none 0 0) (.int .i64 G.1) (.int .i64 G.2) hw7
      rw [← hw7]
      clear hw7 x0 x1 x2 x3 x4 xf y0 y1 yf
      have hW6 := hW5.trans (hb6.mono hW5.size)
      have hW7 : Below w.heap.size w w7 := hW6.trans (hB7.mono (by omega))
      have k7 := through hB7 k6 z35
      have z7 : w.heap.size < w7.heap.size := by have := hB7.size; omega
      go_wp2_with (first | (go_at_call 7; refine (h7.out _ hW7).mono ?_; rintro e w8 ⟨rfl, hb8⟩; have qp8 := qp7.same hb8; have qf8 := qf7.same hb8; have k8 := through hb8 k7 z7; have hW8 := hW7.trans (hb8.mono hW7.size); have z8 : w.heap.size < w8.heap.size := (by have := hb8.size; omega)) | (go_at_call 8; refine (h8.out _ (hW8.alloc hW8.size _)).mono ?_; rintro e w9 ⟨rfl, hb9⟩; have b89 : Below w8.heap.size w8 w9 := below_call hb9; have qp9 := qp8.same b89; have qf9 := qf8.same b89; have qg9 := (Fx.new w8 (.int .i64 G.1) (.int .i64 G.2)).same hb9; obtain ⟨⟨x0, x1, x2, x3, x4⟩, xf⟩ := qp9.cells; obtain ⟨⟨y0, y1⟩, yf⟩ := qf9.cells; obtain ⟨⟨u0, u1⟩, uf⟩ := qg9.cells; have hx9 := qp9.lt; have hy9 := qf9.lt; have hu9 := qg9.lt; have hW9 := hW8.trans (b89.mono hW8.size)))
      go_ret
      exact ⟨ret_bool (by simp), hW9.alloc hW9.size _⟩

set_option maxRecDepth 20000 in
set_option maxHeartbeats 8000000 in
theorem walk_yes (W roots : List Int) (ad rad : Option Addr) (cap rcap : Nat) (w : World) (hl5 : W.length ≤ 5000) (hrl : roots.length ≤ 5000) (hr : WordsAt ad W w) (hroots : RootsAt rad roots w) (h : (rootsOf W roots).1 = 0) :
    Calls Try.prog 3 #[.agg #[.slice ad W.length cap], .slice rad roots.length rcap] w fun e w' => e = .returned (.bool true) ∧ Below w.heap.size w w' := by
  have HR : Hid (∀ w0, Below w.heap.size w w0 → WordsAt ad W w0) := fun w0 hb => hr.below hb
  have HO : Hid (∀ w0, Below w.heap.size w w0 → RootsAt rad roots w0) := fun w0 hb => hroots.below hb
  have h6 : Hid (∀ w0 g c, Below w.heap.size w w0 → OpsAt (some ⟨g, 0, none⟩) (List.replicate 667 scan1) w0 → Calls Try.prog 6 #[heapV ad W.length cap, .slice rad roots.length rcap, .slice (some ⟨g, 0, none⟩) 667 c] w0 fun e w' => (∃ a0 n0 c0 a1 n1 c1 a2 c2 a4 c4, e = .returned (.tuple #[.agg #[.slice a0 n0 c0, .slice a1 n1 c1, .slice a2 (places W 2).length c2, .bool true, .slice a4 (goneL W roots).length c4], .agg #[.int .i64 0, .int .i64 0]]) ∧ w'.ownsRow w0.heap.size 3 1 (.slice a4 (goneL W roots).length c4) (goneL W roots).length (vals (goneL W roots))) ∧ Below w0.heap.size w0 w') := fun w0 g c hb ho => playA_any W roots ad rad cap rcap g c w0 (hr.below hb) (hroots.below hb) ho hrl h
  have h7 : Hid (∀ w0, Below w.heap.size w w0 → Calls Try.prog 7 #[heapV ad W.length cap, .slice rad roots.length rcap] w0 fun e w' => (∃ ad c, e = .returned (.tuple #[.slice ad (reachList W roots).length c, .agg #[.int .i64 0, .int .i64 0]])) ∧ Below w0.heap.size w0 w') := fun w0 hb => (hreach_yes W roots ad rad cap rcap w0 (hr.below hb) (hroots.below hb) hrl h).mono fun _ _ hp => ⟨let ⟨ad, c, e, _⟩ := hp.1; ⟨ad, c, e⟩, hp.2⟩
  have h8 : Hid (∀ w0, Below w.heap.size w w0 → Calls Try.prog 8 #[heapV ad W.length cap, .slice rad roots.length rcap] w0 fun e w' => (∃ ad c, e = .returned (.tuple #[.slice ad (goneL W roots).length c, .agg #[.int .i64 0, .int .i64 0]]) ∧ Reads w' (.slice ad (goneL W roots).length c) (goneL W roots)) ∧ Below w0.heap.size w0 w') := fun w0 hb => trial_yes W roots ad rad cap rcap w0 (hr.below hb) (hroots.below hb) hrl h
  have hsum := reach_gone W roots
  have hfew : (places W 2).length ≤ 2000 := by have := (fine_of (roots_zero h).1); exact tplaces_few this.few
  generalize goneL W roots = M at *
  generalize (reachList W roots).length = nl at *
  generalize (places W 2).length = np at *
  have hMM : (M == M) = true := by simp
  have hMl : M.length ≤ 2000 := by omega
  have hww := wrap_id (x := (nl : Int) + (M.length : Int)) (by omega) (by omega)
  have heq : ((nl : Int) + (M.length : Int) == (np : Int)) = true := by rw [beq_iff_eq]; omega
  clear h hsum
  clear hr hroots
  obtain ⟨iO, zO, hiO, hO0, hO1, hO2, hO3⟩ := infoOp
  have once1 : Hid (1 = 1) := rfl
  go_enter Try.func3, Try.ntmps3
  go_wp2_with (first | (go_at_call 5; refine (kvast_no ad rad _ cap _ rcap _ hl5 hrl).mono ?_; rintro e w1 ⟨rfl, hb1⟩; have k1 := box_one hb1; have z1 := grew1 hb1; have hW1 := below_call hb1))
  go_loopw [5, 6] (fun v s wr => ∃ (n : Nat), s = .int .i64 n ∧ n ≤ 667 ∧ wr.ownsRow w1.heap.size 28 6 v n (scansV n) ∧ Below w1.heap.size w1 wr) (fun _ s _ => 667 - (intOf s).toNat)
  case atStart => exact ⟨0, rfl, Nat.zero_le _, World.ownsRow_nil _ _ _ _, Below.refl _ _⟩
  case round =>
    obtain ⟨n, rfl, hn, hown, hB⟩ := hrel
    by_cases hlt : n < 667
    · have hii : (n : Int) < 667 := by omega
      have hwi := wrap_id (x := (n : Int) + 1) (by omega) (by omega)
      have hsz := hB.size
      go_wp2_with (at_builtin; refine wpList_append_own _ rfl (.tmp 21) (.tmp 23) 26 rfl w1.heap.size 28 iO zO 6 48 tyOps hiO hO0 hO1 hO2 hO3 (by decide) _ n (scansV n) rfl (hown.alloc _) ⟨wr.heap.size, 0, none⟩ 1 1 opCells rfl (by simp) (op_news _ _) op_one (by unfold maxLen; omega) (by omega) (by simp; omega) ?_; intro v' w3 hown3 hgrow3 hnil3)
      have hB3 : Below w1.heap.size w1 w3 := (hB.alloc hB.size _).grown hgrow3 (by have := hB.size; simp; omega) (fun k hk => (hown.lt k hk).1)
      go_roundw
      case rel => exact ⟨n + 1, by first | rfl | simp, by omega, by rw [scans_succ]; exact hown3, hB3⟩
      case measure => simp [intOf]; omega
    · have he : n = 667 := by omega
      subst he
      obtain ⟨g, c, hv⟩ : ∃ g c, _ = sl g 667 c := by
        rcases hown.2 with ⟨_, h0⟩ | ⟨g, cap', cur, h0, _⟩
        · omega
        · exact ⟨g, cap', h0⟩
      subst hv
      have HOps : Hid (∀ w0, Below wr.heap.size wr w0 → OpsAt (some ⟨g, 0, none⟩) (List.replicate 667 scan1) w0) := fun w0 hb => (scans_at hown).below hb
      have k2 := through hB k1 z1
      have z2 : w.heap.size < wr.heap.size := Nat.lt_of_lt_of_le z1 hB.size
      have hW2 := hW1.trans (hB.mono hW1.size)
      clear hown hB k1
      go_upto_region 11 with (first | (have o := once1; clear once1 o; go_at_call 6; refine (play9_any wr.heap.size (wr.heap.size + 1) g c _ ((row9 wr).alloc _) (by have := root9 (wr.alloc (.cells #[.int .i64 0, .int .i64 3, .int .i64 0, .int .i64 1, .int .i64 0, .int .i64 0, .int .i64 2, .int .i64 4, .int .i64 0] 3)); simpa using this) (HOps.out _ (((Below.refl _ _).alloc (Nat.le_refl _) _).alloc (by simp) _))).mono ?_; rintro e w3 ⟨⟨a0, n0, c0, a1, n1, c1, a2, n2, c2, g4, c4, rfl, hc4, hg4⟩, hb3⟩))
      have hbr3 : Below wr.heap.size wr w3 := (((Below.refl _ _).alloc (Nat.le_refl _) _).alloc (by simp) _).trans (hb3.mono (by simp; omega))
      obtain ⟨w5, hw5⟩ : ∃ w5, w5 = (w3.alloc (.cells #[.slice a0 n0 c0, .slice a1 n1 c1, .slice a2 n2 c2, .bool true, sl g4 1 c4] 30)).alloc (.cells #[.int .i64 0, .int .i64 0] 33) := ⟨_, rfl⟩
      have hb35 : Below w3.heap.size w3 w5 := by rw [hw5]; exact ((Below.refl _ _).alloc (Nat.le_refl _) _).alloc (by simp) _
      have qp : Bx w5 w3.heap.size (.slice a0 n0 c0) (.slice a1 n1 c1) (.slice a2 n2 c2) (.bool true) (sl g4 1 c4) := by rw [hw5]; exact (Bx.new _ _ _ _ _ _).same ((Below.refl _ _).alloc (Nat.le_refl _) _)
      have qf : Fx w5 (w3.heap.size + 1) (.int .i64 0) (.int .i64 0) := by rw [hw5]; have := Fx.new (w3.alloc (.cells #[.slice a0 n0 c0, .slice a1 n1 c1, .slice a2 n2 c2, .bool true, sl g4 1 c4] 30)) (.int .i64 0) (.int .i64 0); simpa using this
      rw [← hw5]
      clear hw5
      have hbr5 := hbr3.trans (hb35.mono hbr3.size)
      have hW5 := hW2.trans (hbr5.mono hW2.size)
      have k5 := through hbr5 k2 z2
      have z35 : w.heap.size < w3.heap.size := Nat.lt_of_lt_of_le z2 hbr3.size
      have z5 : w.heap.size < w5.heap.size := Nat.lt_of_lt_of_le z35 hb35.size
      have hops5 := HOps.out _ hbr5
      clear hc4 hg4 hb3 hbr3 hb35 k2 HOps
      go_upto_region 12 with (first | (go_at_call 6; refine (h6.out _ g c hW5 hops5).mono ?_; rintro e w6 ⟨⟨e0, m0, d0, e1, m1, d1, e2, d2, e4, d4, rfl, hown6⟩, hb6⟩; have qp6 := qp.same hb6; have qf6 := qf.same hb6; obtain ⟨⟨x0, x1, x2, x3, x4⟩, xf⟩ := qp6.cells; obtain ⟨⟨y0, y1⟩, yf⟩ := qf6.cells; have hxl := qp6.lt; have hyl := qf6.lt; have k6 := through hb6 k5 z5))
      have hz6 := hb6.size
      have hq5 := qf.lt
      obtain ⟨w7, hw7⟩ : ∃ w7, w7 = _ := ⟨_, rfl⟩
      obtain ⟨qp7, qf7, hB7, hk7⟩ := stored7 qp6 qf6 (.slice e0 m0 d0) (.slice e1 m1 d1) (.slice e2 np d2) (.bool true) (.slice e4 M.length d4) (.int .i64 0) (.int .i64 0) hw7
      rw [← hw7]
      clear hw7 x0 x1 x2 x3 x4 xf y0 y1 yf
      have hW6 := hW5.trans (hb6.mono hW5.size)
      have hW7 : Below w.heap.size w w7 := hW6.trans (hB7.mono (by omega))
      have k7 := through hB7 k6 z35
      have z7 : w.heap.size < w7.heap.size := by have := hB7.size; omega
      have hown7 : w7.ownsRow w5.heap.size 3 1 (.slice e4 M.length d4) M.length (vals M) := own_same hown6 fun k hk => hk7 k (by have := (hown6.lt k hk).1; omega) (by have := (hown6.lt k hk).1; omega)
      have hR7 := reads_ownT hown7
      go_wp2_with (first | (go_at_call 7; refine (h7.out _ hW7).mono ?_; rintro e w8 ⟨⟨la, lc, rfl⟩, hb8⟩; have qp8 := qp7.same hb8; have qf8 := qf7.same hb8; have k8 := through hb8 k7 z7; have hW8 := hW7.trans (hb8.mono hW7.size); have z8 : w.heap.size < w8.heap.size := (by have := hb8.size; omega); have hR8 := hR7.below hb8) | (go_at_call 8; refine (h8.out _ (hW8.alloc hW8.size _)).mono ?_; rintro e w9 ⟨⟨ma, mc, rfl, hM9⟩, hb9⟩; have b89 : Below w8.heap.size w8 w9 := below_call hb9; have qp9 := qp8.same b89; have qf9 := qf8.same b89; have qg9 := (Fx.new w8 (.int .i64 0) (.int .i64 0)).same hb9; obtain ⟨⟨x0, x1, x2, x3, x4⟩, xf⟩ := qp9.cells; obtain ⟨⟨y0, y1⟩, yf⟩ := qf9.cells; obtain ⟨⟨u0, u1⟩, uf⟩ := qg9.cells; have hx9 := qp9.lt; have hy9 := qf9.lt; have hu9 := qg9.lt; have hW9 := hW8.trans (b89.mono hW8.size); have hR9 := hR8.below (((Below.refl _ _).alloc (Nat.le_refl _) _).trans (hb9.mono (by simp)))) | (go_at_call 9; refine (kints_any M M _ _ _ (hR9.below ((Below.refl _ _).alloc (Nat.le_refl _) _)) (hM9.below ((Below.refl _ _).alloc (Nat.le_refl _) _)) (by omega)).mono ?_; rw [hMM]; rintro e wx ⟨rfl, m, rfl⟩))
      go_ret
      exact ⟨ret_bool (by simp), below_drewN (hW9.alloc hW9.size _) _⟩

theorem walk (W roots : List Int) (ad rad : Option Addr) (cap rcap : Nat) (w : World) (hm : W.length ≤ maxLen) (hrm : roots.length ≤ maxLen) (hr : WordsAt ad W w) (hroots : RootsAt rad roots w) :
    Calls Try.prog 3 #[.agg #[.slice ad W.length cap], .slice rad roots.length rcap] w fun e w' => e = .returned (.bool true) ∧ Below w.heap.size w w' := by
  by_cases hl : W.length ≤ 5000 ∧ roots.length ≤ 5000
  · by_cases h : (rootsOf W roots).1 = 0
    · exact walk_yes W roots ad rad cap rcap w hl.1 hl.2 hr hroots h
    · exact walk_no W roots ad rad cap rcap w hl.1 hl.2 hr hroots h
  · exact big ad rad W.length cap roots.length rcap w hm hrm (by omega)

set_option maxRecDepth 100000 in
theorem lifted (os : Os) (started : os.Started) (H : Type) (enc : TypeId × Value → H) :
    ReturnsInHanded {} Try.checked os 3 .any (Rows.triAloneSpec.pre6 enc Try.prog Try.f3 Rows.triAloneRow.domain false) (Rows.triAloneSpec.post enc Try.prog Try.f3 false true false false) := by
  refine returnsInHanded_of_change (C := Try.checked) own started (by kernel_rfl) Try.func3
    (ChangeSpec.witness6 (enc := enc) (C := Try.checked) false ⟨#[], #[.agg #[.slice none 0 0], .slice none 0 0], []⟩ 8 (by kernel_rfl) (by kernel_rfl) (by kernel_rfl) (by kernel_rfl)) ?_
  intro W base args ds gs before hval0 hW hcnd _
  have hval : ∀ (j : Nat) t v, Try.f3.params[j]? = some t → args[j]? = some v → Value.okWide Try.prog W .any base t v := hval0
  have hW' := hW
  obtain ⟨p, q, hA0, hV, rfl, hfz, hnd⟩ := hW
  have hA : DataW.TrodAll enc Try.prog W 0 (fun _ => true) true Try.f3.params.toList args.toList ds p := hA0
  rw [Try.params3] at hA hval
  obtain ⟨v0, vs0, d0, ds0, p0, q0, hargs, rfl, rfl, h0, r0⟩ := trodAll_cons hA
  obtain ⟨v1, vs1, d1, ds1, p1, q1, rfl, rfl, rfl, h1, r1⟩ := trodAll_cons r0
  obtain ⟨rfl, rfl, rfl⟩ := trodAll_nil r1
  obtain rfl : args = #[v0, v1] := by cases args; simp_all
  obtain ⟨rfl, rfl⟩ := trodVars_none hV
  have lt0 : ∀ x ∈ p0, x.block < W.heap.size := by obtain ⟨m, hm⟩ := h0; exact DataW.trod_lt m _ _ _ hm
  have lt1 : ∀ x ∈ p1, x.block < W.heap.size := by obtain ⟨m, hm⟩ := h1; exact DataW.trod_lt m _ _ _ hm
  obtain ⟨ad0, cap0, L0, rfl, hm0, hr0⟩ := open_heap (hval 0 24 v0 rfl rfl) h0
  obtain ⟨ad1, cap1, L1, rfl, hm1, hr1⟩ := open_ints' (hval 1 22 v1 rfl rfl) h1
  clear hA0 hval0
  refine (walk L0 L1 ad0 ad1 cap0 cap1 W hm0 hm1 hr0 hr1).mono fun e W' ⟨he, bel⟩ => ?_
  subst he
  exact ⟨_, rfl, _, _, _, [], _, [], hW', trodAll_mk1 (shut_bool lt4 _), (trodAll_cons_mk (Below.trod laidOut (by kernel_rfl) (of_decide_eq_true (by kernel_rfl)) h0 bel lt0) (trodAll_cons_mk (Below.trod laidOut (by kernel_rfl) (of_decide_eq_true (by kernel_rfl)) h1 bel lt1) trodAll_mk0)), rfl, bel.frame _, fun h => by cases h⟩

theorem over : Rows.triAloneRow.holds Try.pinned (OpenSpec.ofChange Rows.triAloneSpec) :=
  OpenClaim.holds_of_wide 3 Try.f3 rfl rfl rfl rfl rfl rfl rfl ⟨rfl, rfl, rfl, rfl, rfl⟩ rfl rfl rfl rfl rfl (by kernel_rfl) Try.func3 (by kernel_rfl)
    (of_decide_eq_true (by kernel_rfl)) (by unfold Func.isWrapper; first | (rw [if_pos (by decide +kernel)]; kernel_rfl) | (rw [if_neg (by decide +kernel)]; exact ⟨rfl, rfl⟩))
    (fun os started H enc _ => lifted os started H enc)

end Go.Proofs.Ythdhaokjibfjdaa.triAlone
namespace Go.Proofs.Ythdhaokjibfjdaa
/-- The statement. -/
theorem triAlone_holds : Rows.TriAloneSaid := triAlone.over
#print axioms triAlone_holds
end Go.Proofs.Ythdhaokjibfjdaa
