/- ImageBack holds for all bytes, every heap and all roots that can come in, with no condition: what was read is written as it was, what was written is read as it was. -/
import Derived.Test.YtdacgjjkgagjhacBackKit
namespace Go.Proofs.Ytdacgjjkgagjhac.imageBack
open Go.ChangeShapes Go.WideShapes Go.ChangeAt Go.RowKit Go.Joins Go.Deep

theorem readP_code {b : List Int} {f : Int × Int} (h : readP b = .error f) : f.1 ≠ 0 := by
  rw [readP_lists] at h
  cases hl : listsP b with
  | error g => rw [hl] at h; simp only [Except.error.injEq] at h; subst h; exact listsP_code hl
  | ok WR =>
    obtain ⟨W, R⟩ := WR
    rw [hl] at h
    simp only at h
    split at h
    · cases h
    · simp only [Except.error.injEq] at h; subst h; assumption

set_option maxRecDepth 20000 in
set_option maxHeartbeats 4000000 in
theorem walk_e_big (b W roots : List Int) (bad ad rad : Option Addr) (bcap cap rcap : Nat) (w : World) (hbm : b.length ≤ maxLen) (hb : BytesAt bad b w) (hr : WordsAt ad W w) (hroots : RootsAt rad roots w) (f : Int × Int) (hf : readP b = .error f) (hm : W.length ≤ maxLen) (hrm : roots.length ≤ maxLen) (hv : 5000 < W.length ∨ 5000 < roots.length) :
    Calls Try.prog 6 #[.slice bad b.length bcap, .agg #[.slice ad W.length cap], .slice rad roots.length rcap] w fun e w' => e = .returned (.bool true) ∧ Below w.heap.size w w' := by
  have h1 : Hid (∀ g w0, Row w0 g 0 [0, 1] → Calls Try.prog 12 #[heapV (some ⟨g, 0, none⟩) 2 2, .slice none 0 0] w0 fun e w' => WriteAns w0.heap.size [71, 69, 4, 0, 2, 0] e w' ∧ Below w0.heap.size w0 w') := fun g w0 h => iwrite_first g w0 h
  have HBy : Hid (∀ c ∈ b, 0 ≤ c ∧ c ≤ 255) := hb.1
  have hR1 : Hid (∀ w0, BytesAt bad b w0 → Calls Try.prog 15 #[.slice bad b.length bcap] w0 fun e w' => e = .returned (.tuple #[.agg #[.slice none 0 0], .slice none 0 0, .agg #[.int .i64 f.1, .int .i64 f.2]]) ∧ Below w0.heap.size w0 w') := fun w0 h0 => by
    have := iread_any bad bcap b w0 h0 hbm
    rw [hf] at this; exact this
  have hc0 := readP_code hf
  obtain ⟨F1, F2⟩ := f
  have hcz : (F1 == 0) = false := by simpa using hc0
  have HBA : Hid (BytesAt bad b w) := hb
  have HR : Hid (WordsAt ad W w) := hr
  have HO : Hid (RootsAt rad roots w) := hroots
  clear hb hr hroots hf hbm hc0
  go_enter Try.func6, Try.ntmps6
  go_wp2_with (first | (go_at_call_of 12 (Value.slice none 0 0); refine (h1.out (w.heap.size + 1) _ (by have := row_first (w.alloc (.cells #[.slice ad W.length cap] 24)); simpa using this)).mono ?_; rintro e w1 ⟨⟨g1, c1, rfl, hg1, hh1⟩, hb1⟩; obtain ⟨k1, _, _, _, _, z1⟩ := boxes1 hb1; have hB1 := below2 hb1; have z10 : w.heap.size < w1.heap.size := (by omega); have q1 := str_row (n := 6) (cap := c1) ((hh1.same ((Below.refl _ _).alloc (Nat.le_refl _) (.cells #[.int .i64 0, .int .i64 0] 27))).row bytes_first) rfl; rw [str_first] at q1; have hB1a : Below w.heap.size w (w1.alloc (.cells #[.int .i64 0, .int .i64 0] 27)) := (hB1.alloc hB1.size _); have nHX : ¬ w.heap.size = w1.heap.size := (by omega)) | (go_at_call_of 15 (Value.slice bad b.length bcap); refine (hR1.out _ (HBA.out.below hB1a)).mono ?_; rintro e w2 ⟨rfl, hb2⟩; obtain ⟨x0, x1, fx0, fx1, zX⟩ := box2W hb2; have hB2 := hB1.trans ((below_call hb2).mono hB1.size); have k2 := through (below_call hb2) k1 z10; have z02 : w.heap.size < w2.heap.size := (by omega); have St2 := std_new (yv := .slice none 0 0) (A := F1) (B := F2) (t := 24) hB2 k2 x0 x1 fx0 fx1 z10 zX; have nXY : ¬ w1.heap.size = w2.heap.size := (by omega)) | (go_at_call 8; refine (kvast_yes ad rad W.length cap roots.length rcap _ hm hrm hv).mono ?_; rintro e w4 ⟨rfl, hb4⟩; have St4 := St2.below hb4; have x0b := St4.x0; have x1b := St4.x1; have fx0b := St4.fx0; have fx1b := St4.fx1; have yyb := St4.y; have fyb := St4.fy; have hhb := St4.h; have lzb := St4.lz; have lXb : w1.heap.size < w4.heap.size := (by omega); have lHb : w.heap.size < w4.heap.size := (by omega)))
  go_ret
  exact ⟨rfl, St4.bel⟩

set_option maxRecDepth 20000 in
set_option maxHeartbeats 4000000 in
theorem walk_e_bad (b W roots : List Int) (bad ad rad : Option Addr) (bcap cap rcap : Nat) (w : World) (hbm : b.length ≤ maxLen) (hb : BytesAt bad b w) (hr : WordsAt ad W w) (hroots : RootsAt rad roots w) (f : Int × Int) (hf : readP b = .error f) (C D : Int) (hC : C ≠ 0) (hl : W.length ≤ 5000) (hrl : roots.length ≤ 5000) (hW : ∀ w0, WordsAt ad W w0 → RootsAt rad roots w0 → Calls Try.prog 12 #[heapV ad W.length cap, .slice rad roots.length rcap] w0 fun e w' => e = .returned (.tuple #[.slice none 0 0, .agg #[.int .i64 C, .int .i64 D]]) ∧ Below w0.heap.size w0 w') :
    Calls Try.prog 6 #[.slice bad b.length bcap, .agg #[.slice ad W.length cap], .slice rad roots.length rcap] w fun e w' => e = .returned (.bool true) ∧ Below w.heap.size w w' := by
  have h1 : Hid (∀ g w0, Row w0 g 0 [0, 1] → Calls Try.prog 12 #[heapV (some ⟨g, 0, none⟩) 2 2, .slice none 0 0] w0 fun e w' => WriteAns w0.heap.size [71, 69, 4, 0, 2, 0] e w' ∧ Below w0.heap.size w0 w') := fun g w0 h => iwrite_first g w0 h
  have HBy : Hid (∀ c ∈ b, 0 ≤ c ∧ c ≤ 255) := hb.1
  have hR1 : Hid (∀ w0, BytesAt bad b w0 → Calls Try.prog 15 #[.slice bad b.length bcap] w0 fun e w' => e = .returned (.tuple #[.agg #[.slice none 0 0], .slice none 0 0, .agg #[.int .i64 f.1, .int .i64 f.2]]) ∧ Below w0.heap.size w0 w') := fun w0 h0 => by
    have := iread_any bad bcap b w0 h0 hbm
    rw [hf] at this; exact this
  have hc0 := readP_code hf
  obtain ⟨F1, F2⟩ := f
  have hcz : (F1 == 0) = false := by simpa using hc0
  have HBA : Hid (BytesAt bad b w) := hb
  have HR : Hid (WordsAt ad W w) := hr
  have HO : Hid (RootsAt rad roots w) := hroots
  have hW3 : Hid (∀ w0, WordsAt ad W w0 → RootsAt rad roots w0 → Calls Try.prog 12 #[heapV ad W.length cap, .slice rad roots.length rcap] w0 fun e w' => e = .returned (.tuple #[.slice none 0 0, .agg #[.int .i64 C, .int .i64 D]]) ∧ Below w0.heap.size w0 w') := hW
  have hCb : (C != 0) = true := by simpa using hC
  clear hW hC
  clear hb hr hroots hf hbm hc0
  go_enter Try.func6, Try.ntmps6
  go_wp2_with (first | (go_at_call_of 12 (Value.slice none 0 0); refine (h1.out (w.heap.size + 1) _ (by have := row_first (w.alloc (.cells #[.slice ad W.length cap] 24)); simpa using this)).mono ?_; rintro e w1 ⟨⟨g1, c1, rfl, hg1, hh1⟩, hb1⟩; obtain ⟨k1, _, _, _, _, z1⟩ := boxes1 hb1; have hB1 := below2 hb1; have z10 : w.heap.size < w1.heap.size := (by omega); have q1 := str_row (n := 6) (cap := c1) ((hh1.same ((Below.refl _ _).alloc (Nat.le_refl _) (.cells #[.int .i64 0, .int .i64 0] 27))).row bytes_first) rfl; rw [str_first] at q1; have hB1a : Below w.heap.size w (w1.alloc (.cells #[.int .i64 0, .int .i64 0] 27)) := (hB1.alloc hB1.size _); have nHX : ¬ w.heap.size = w1.heap.size := (by omega)) | (go_at_call_of 15 (Value.slice bad b.length bcap); refine (hR1.out _ (HBA.out.below hB1a)).mono ?_; rintro e w2 ⟨rfl, hb2⟩; obtain ⟨x0, x1, fx0, fx1, zX⟩ := box2W hb2; have hB2 := hB1.trans ((below_call hb2).mono hB1.size); have k2 := through (below_call hb2) k1 z10; have z02 : w.heap.size < w2.heap.size := (by omega); have St2 := std_new (yv := .slice none 0 0) (A := F1) (B := F2) (t := 24) hB2 k2 x0 x1 fx0 fx1 z10 zX; have nXY : ¬ w1.heap.size = w2.heap.size := (by omega)) | (go_at_call 8; refine (kvast_no ad rad W.length cap roots.length rcap _ hl hrl).mono ?_; rintro e w4 ⟨rfl, hb4⟩; have St4 := St2.below hb4; have x0b := St4.x0; have x1b := St4.x1; have fx0b := St4.fx0; have fx1b := St4.fx1; have yyb := St4.y; have fyb := St4.fy; have hhb := St4.h; have lzb := St4.lz; have lXb : w1.heap.size < w4.heap.size := (by omega); have lHb : w.heap.size < w4.heap.size := (by omega)) | (go_at_call_of 12 (Value.slice rad roots.length rcap); refine (hW3.out _ (HR.out.below St4.bel) (HO.out.below St4.bel)).mono ?_; rintro e w5 ⟨rfl, hb5⟩; have St5 := St4.below hb5; have x0c := St5.x0; have x1c := St5.x1; have fx0c := St5.fx0; have fx1c := St5.fx1; have yyc := St5.y; have fyc := St5.fy; have hhc := St5.h; have lzc := St5.lz; have lXc : w1.heap.size < w5.heap.size := (by omega); have lHc : w.heap.size < w5.heap.size := (by omega)))
  go_ret
  exact ⟨ret_bool (by simp), (St5.setX C D).bel⟩

set_option maxRecDepth 20000 in
set_option maxHeartbeats 4000000 in
theorem walk_e_good (b W roots : List Int) (bad ad rad : Option Addr) (bcap cap rcap : Nat) (w : World) (hbm : b.length ≤ maxLen) (hb : BytesAt bad b w) (hr : WordsAt ad W w) (hroots : RootsAt rad roots w) (f : Int × Int) (hf : readP b = .error f) (h : (rootsOf W roots).1 = 0) (h6 : roots.length ≤ 600) :
    Calls Try.prog 6 #[.slice bad b.length bcap, .agg #[.slice ad W.length cap], .slice rad roots.length rcap] w fun e w' => e = .returned (.bool true) ∧ Below w.heap.size w w' := by
  have h1 : Hid (∀ g w0, Row w0 g 0 [0, 1] → Calls Try.prog 12 #[heapV (some ⟨g, 0, none⟩) 2 2, .slice none 0 0] w0 fun e w' => WriteAns w0.heap.size [71, 69, 4, 0, 2, 0] e w' ∧ Below w0.heap.size w0 w') := fun g w0 h => iwrite_first g w0 h
  have HBy : Hid (∀ c ∈ b, 0 ≤ c ∧ c ≤ 255) := hb.1
  have hR1 : Hid (∀ w0, BytesAt bad b w0 → Calls Try.prog 15 #[.slice bad b.length bcap] w0 fun e w' => e = .returned (.tuple #[.agg #[.slice none 0 0], .slice none 0 0, .agg #[.int .i64 f.1, .int .i64 f.2]]) ∧ Below w0.heap.size w0 w') := fun w0 h0 => by
    have := iread_any bad bcap b w0 h0 hbm
    rw [hf] at this; exact this
  have hc0 := readP_code hf
  obtain ⟨F1, F2⟩ := f
  have hcz : (F1 == 0) = false := by simpa using hc0
  have HBA : Hid (BytesAt bad b w) := hb
  have HR : Hid (WordsAt ad W w) := hr
  have HO : Hid (RootsAt rad roots w) := hroots
  obtain ⟨hc, _, _⟩ := roots_zero h
  obtain ⟨w2', wl, _⟩ := front_out (check_fine hc).1
  have hl : W.length ≤ 5000 := by omega
  have hrl : roots.length ≤ 5000 := by omega
  have hlm : W.length ≤ 1000000 := by omega
  have hrm : roots.length ≤ 1000000 := by omega
  have hW2 : 2 ≤ W.length := w2'
  have hW3 : Hid (∀ w0, WordsAt ad W w0 → RootsAt rad roots w0 → Calls Try.prog 12 #[heapV ad W.length cap, .slice rad roots.length rcap] w0 fun e w' => WriteAns w0.heap.size (imageB W roots) e w' ∧ Below w0.heap.size w0 w') := fun w0 a1 a2 => iwrite_good W roots ad rad cap rcap w0 a1 a2 h h6
  have hR3 : Hid (∀ ad cap w0, BytesAt ad (imageB W roots) w0 → Calls Try.prog 15 #[.slice ad (imageB W roots).length cap] w0 fun e w' => ReadAns w0.heap.size W roots e w' ∧ Below w0.heap.size w0 w') :=
    fun ad cap w0 hb => iread_image W roots ad cap w0 h h6 (by have := image_short h h6; unfold maxLen; omega) hb
  have HBI : Hid (∀ c ∈ imageB W roots, 0 ≤ c ∧ c ≤ 255) := image_bytes W roots
  have hWW : (W == W) = true := by simp
  have hRR : (roots == roots) = true := by simp
  generalize imageB W roots = I at *
  clear h h6 hc w2' wl
  clear hb hr hroots hf hbm hc0
  go_enter Try.func6, Try.ntmps6
  go_wp2_with (first | (go_at_call_of 12 (Value.slice none 0 0); refine (h1.out (w.heap.size + 1) _ (by have := row_first (w.alloc (.cells #[.slice ad W.length cap] 24)); simpa using this)).mono ?_; rintro e w1 ⟨⟨g1, c1, rfl, hg1, hh1⟩, hb1⟩; obtain ⟨k1, _, _, _, _, z1⟩ := boxes1 hb1; have hB1 := below2 hb1; have z10 : w.heap.size < w1.heap.size := (by omega); have q1 := str_row (n := 6) (cap := c1) ((hh1.same ((Below.refl _ _).alloc (Nat.le_refl _) (.cells #[.int .i64 0, .int .i64 0] 27))).row bytes_first) rfl; rw [str_first] at q1; have hB1a : Below w.heap.size w (w1.alloc (.cells #[.int .i64 0, .int .i64 0] 27)) := (hB1.alloc hB1.size _); have nHX : ¬ w.heap.size = w1.heap.size := (by omega)) | (go_at_call_of 15 (Value.slice bad b.length bcap); refine (hR1.out _ (HBA.out.below hB1a)).mono ?_; rintro e w2 ⟨rfl, hb2⟩; obtain ⟨x0, x1, fx0, fx1, zX⟩ := box2W hb2; have hB2 := hB1.trans ((below_call hb2).mono hB1.size); have k2 := through (below_call hb2) k1 z10; have z02 : w.heap.size < w2.heap.size := (by omega); have St2 := std_new (yv := .slice none 0 0) (A := F1) (B := F2) (t := 24) hB2 k2 x0 x1 fx0 fx1 z10 zX; have nXY : ¬ w1.heap.size = w2.heap.size := (by omega)) | (go_at_call 8; refine (kvast_no ad rad W.length cap roots.length rcap _ hl hrl).mono ?_; rintro e w4 ⟨rfl, hb4⟩; have St4 := St2.below hb4; have x0b := St4.x0; have x1b := St4.x1; have fx0b := St4.fx0; have fx1b := St4.fx1; have yyb := St4.y; have fyb := St4.fy; have hhb := St4.h; have lzb := St4.lz; have lXb : w1.heap.size < w4.heap.size := (by omega); have lHb : w.heap.size < w4.heap.size := (by omega)) | (go_at_call_of 12 (Value.slice rad roots.length rcap); refine (hW3.out _ (HR.out.below St4.bel) (HO.out.below St4.bel)).mono ?_; rintro e w5 ⟨⟨g5, c5, rfl, hg5, hh5⟩, hb5⟩; have St5 := St4.below hb5; have x0c := St5.x0; have x1c := St5.x1; have fx0c := St5.fx0; have fx1c := St5.fx1; have yyc := St5.y; have fyc := St5.fy; have hhc := St5.h; have lzc := St5.lz; have lXc : w1.heap.size < w5.heap.size := (by omega); have lHc : w.heap.size < w5.heap.size := (by omega); have St5s := St5.setX 0 0; have hg5a : ¬ g5 = w1.heap.size := (by omega); have hh5s := ((hh5.block (Below.heap_setCell w5 ⟨w1.heap.size, 0, none⟩ (.int .i64 0) _ (by dsimp only; exact hg5a)) (by simp [World.setCell])).block (Below.heap_setCell (w5.setCell ⟨w1.heap.size, 0, none⟩ (.int .i64 0)) ⟨w1.heap.size, 1, none⟩ (.int .i64 0) _ (by dsimp only; exact hg5a)) (by simp [World.setCell]))) | (go_at_call_of 15 (sl g5 I.length c5); refine (hR3.out _ _ _ (own_bytes hh5s HBI.out)).mono ?_; rintro e w6 ⟨⟨g6, g6', rfl, r6, r6', hg6, hg6'⟩, hb6⟩; have St6 := St5s.below hb6; have x0d := St6.x0; have x1d := St6.x1; have fx0d := St6.fx0; have fx1d := St6.fx1; have yyd := St6.y; have fyd := St6.fy; have hhd := St6.h; have lzd := St6.lz; have lXd : w1.heap.size < w6.heap.size := (by omega); have lHd : w.heap.size < w6.heap.size := (by omega); have hg6a : w5.heap.size ≤ g6 := (by simpa [World.setCell] using hg6); have hg6b : w5.heap.size ≤ g6' := (by simpa [World.setCell] using hg6')) | (go_at_call_of 9 (Value.slice ad W.length cap); refine (kints_any W W _ _ _ (Reads.of_row (by repeat (first | refine row_set ?_ (by dsimp only; omega) _ | refine Row.alloc ?_ _ | exact r6))) (reads_words (HR.out.below (by repeat (first | refine below_drewN ?_ _ | refine Below.setCell ?_ (by dsimp only; omega) _ | refine Below.alloc ?_ (by first | omega | (simp; omega)) _ | exact St6.bel))) hW2) hlm).mono ?_; rw [hWW]; rintro e w7 ⟨rfl, m7, rfl⟩) | (go_at_call_of 9 (Value.slice rad roots.length rcap); refine (kints_any roots roots _ _ _ (Reads.below (Reads.of_row (by repeat (first | refine row_set ?_ (by dsimp only; omega) _ | refine Row.alloc ?_ _ | exact r6'))) (below_drewN (Below.refl _ _) _)) (reads_roots (HO.out.below (by repeat (first | refine below_drewN ?_ _ | refine Below.setCell ?_ (by dsimp only; omega) _ | refine Below.alloc ?_ (by first | omega | (simp; omega)) _ | exact St6.bel)))) hrm).mono ?_; rw [hRR]; rintro e w8 ⟨rfl, m8, rfl⟩))
  go_ret
  refine ⟨ret_bool (by simp), ?_⟩
  repeat (first | refine below_drewN ?_ _ | refine Below.setCell ?_ (by dsimp only; omega) _ | refine Below.alloc ?_ (by first | omega | (simp; omega)) _ | exact St6.bel)

set_option maxRecDepth 20000 in
set_option maxHeartbeats 4000000 in
theorem walk_o_big (b W roots : List Int) (bad ad rad : Option Addr) (bcap cap rcap : Nat) (w : World) (hbm : b.length ≤ maxLen) (hb : BytesAt bad b w) (hr : WordsAt ad W w) (hroots : RootsAt rad roots w) (V R : List Int) (hf : readP b = .ok (V, R)) (hm : W.length ≤ maxLen) (hrm : roots.length ≤ maxLen) (hv : 5000 < W.length ∨ 5000 < roots.length) :
    Calls Try.prog 6 #[.slice bad b.length bcap, .agg #[.slice ad W.length cap], .slice rad roots.length rcap] w fun e w' => e = .returned (.bool true) ∧ Below w.heap.size w w' := by
  have h1 : Hid (∀ g w0, Row w0 g 0 [0, 1] → Calls Try.prog 12 #[heapV (some ⟨g, 0, none⟩) 2 2, .slice none 0 0] w0 fun e w' => WriteAns w0.heap.size [71, 69, 4, 0, 2, 0] e w' ∧ Below w0.heap.size w0 w') := fun g w0 h => iwrite_first g w0 h
  have HBy : Hid (∀ c ∈ b, 0 ≤ c ∧ c ≤ 255) := hb.1
  obtain ⟨hI, hVR, hRl⟩ := image_read hb.1 hf
  have hbl : 0 < b.length := by rw [← hI]; unfold imageB; simp
  obtain ⟨gb, ob, rfl, hrb⟩ := hb.2 hbl
  have Hrb : Hid (BRow w gb ob b) := hrb
  clear hrb
  have hR1 : Hid (∀ w0, BytesAt (some ⟨gb, ob, none⟩) b w0 → Calls Try.prog 15 #[.slice (some ⟨gb, ob, none⟩) b.length bcap] w0 fun e w' => ReadAns w0.heap.size V R e w' ∧ Below w0.heap.size w0 w') := fun w0 h0 => by
    have := iread_any (some ⟨gb, ob, none⟩) bcap b w0 h0 hbm
    rw [hf] at this; exact this
  have hW1 : Hid (∀ g g' w0, Row w0 g 0 V → Row w0 g' 0 R → Calls Try.prog 12 #[heapV (some ⟨g, 0, none⟩) V.length V.length, .slice (some ⟨g', 0, none⟩) R.length R.length] w0 fun e w' => WriteAns w0.heap.size b e w' ∧ Below w0.heap.size w0 w') := fun g g' w0 h1 h2 => by
    have := iwrite_good V R (some ⟨g, 0, none⟩) (some ⟨g', 0, none⟩) V.length R.length w0 (fun _ => ⟨g, 0, rfl, h1⟩) (fun _ => ⟨g', 0, rfl, h2⟩) hVR hRl
    rw [hI] at this; exact this
  have HBA : Hid (BytesAt (some ⟨gb, ob, none⟩) b w) := hb
  have HR : Hid (WordsAt ad W w) := hr
  have HO : Hid (RootsAt rad roots w) := hroots
  clear hb hr hroots hf hbm hI hVR hRl hbl
  go_enter Try.func6, Try.ntmps6
  go_wp2_with (first | (go_at_call_of 12 (Value.slice none 0 0); refine (h1.out (w.heap.size + 1) _ (by have := row_first (w.alloc (.cells #[.slice ad W.length cap] 24)); simpa using this)).mono ?_; rintro e w1 ⟨⟨g1, c1, rfl, hg1, hh1⟩, hb1⟩; obtain ⟨k1, _, _, _, _, z1⟩ := boxes1 hb1; have hB1 := below2 hb1; have z10 : w.heap.size < w1.heap.size := (by omega); have q1 := str_row (n := 6) (cap := c1) ((hh1.same ((Below.refl _ _).alloc (Nat.le_refl _) (.cells #[.int .i64 0, .int .i64 0] 27))).row bytes_first) rfl; rw [str_first] at q1; have hB1a : Below w.heap.size w (w1.alloc (.cells #[.int .i64 0, .int .i64 0] 27)) := (hB1.alloc hB1.size _); have nHX : ¬ w.heap.size = w1.heap.size := (by omega)) | (go_at_call_of 15 (Value.slice (some ⟨gb, ob, none⟩) b.length bcap); refine (hR1.out _ (HBA.out.below hB1a)).mono ?_; rintro e w2 ⟨⟨g2, g2', rfl, r2, r2', hg2, hg2'⟩, hb2⟩; obtain ⟨x0, x1, fx0, fx1, zX⟩ := box2W hb2; have hB2 := hB1.trans ((below_call hb2).mono hB1.size); have k2 := through (below_call hb2) k1 z10; have z02 : w.heap.size < w2.heap.size := (by omega); have St2 := std_new (yv := sl g2 V.length V.length) (A := 0) (B := 0) (t := 24) hB2 k2 x0 x1 fx0 fx1 z10 zX; have nXY : ¬ w1.heap.size = w2.heap.size := (by omega); have hg2a : w1.heap.size < g2 := (by simp at hg2; omega); have hg2b : w1.heap.size < g2' := (by simp at hg2'; omega)) | (go_at_call_of 12 (sl g2' R.length R.length); refine (hW1.out g2 g2' _ (by repeat (first | refine row_set ?_ (by dsimp only; omega) _ | refine Row.alloc ?_ _ | exact r2)) (by repeat (first | refine row_set ?_ (by dsimp only; omega) _ | refine Row.alloc ?_ _ | exact r2'))).mono ?_; rintro e w3 ⟨⟨g3, c3, rfl, hg3, hh3⟩, hb3⟩; have St3 := St2.below hb3; have x0a := St3.x0; have x1a := St3.x1; have fx0a := St3.fx0; have fx1a := St3.fx1; have yya := St3.y; have fya := St3.fy; have hha := St3.h; have lza := St3.lz; have lXa : w1.heap.size < w3.heap.size := (by omega); have lHa : w.heap.size < w3.heap.size := (by omega); have q3 := str_row (n := b.length) (cap := c3) ((hh3.same ((Below.refl _ _).alloc (Nat.le_refl _) (.cells #[.int .i64 0, .int .i64 0] 27))).row HBy.out) rfl; have q4 := str_row (n := b.length) (cap := bcap) (Hrb.out.same (St3.bel.alloc St3.bel.size (.cells #[.int .i64 0, .int .i64 0] 27))) rfl) | (go_at_call 8; refine (kvast_yes ad rad W.length cap roots.length rcap _ hm hrm hv).mono ?_; rintro e w4 ⟨rfl, hb4⟩; have St4 := (St3.alloc _).below hb4; have x0b := St4.x0; have x1b := St4.x1; have fx0b := St4.fx0; have fx1b := St4.fx1; have yyb := St4.y; have fyb := St4.fy; have hhb := St4.h; have lzb := St4.lz; have lXb : w1.heap.size < w4.heap.size := (by omega); have lHb : w.heap.size < w4.heap.size := (by omega)))
  go_ret
  exact ⟨rfl, St4.bel⟩

set_option maxRecDepth 20000 in
set_option maxHeartbeats 4000000 in
theorem walk_o_bad (b W roots : List Int) (bad ad rad : Option Addr) (bcap cap rcap : Nat) (w : World) (hbm : b.length ≤ maxLen) (hb : BytesAt bad b w) (hr : WordsAt ad W w) (hroots : RootsAt rad roots w) (V R : List Int) (hf : readP b = .ok (V, R)) (C D : Int) (hC : C ≠ 0) (hl : W.length ≤ 5000) (hrl : roots.length ≤ 5000) (hW : ∀ w0, WordsAt ad W w0 → RootsAt rad roots w0 → Calls Try.prog 12 #[heapV ad W.length cap, .slice rad roots.length rcap] w0 fun e w' => e = .returned (.tuple #[.slice none 0 0, .agg #[.int .i64 C, .int .i64 D]]) ∧ Below w0.heap.size w0 w') :
    Calls Try.prog 6 #[.slice bad b.length bcap, .agg #[.slice ad W.length cap], .slice rad roots.length rcap] w fun e w' => e = .returned (.bool true) ∧ Below w.heap.size w w' := by
  have h1 : Hid (∀ g w0, Row w0 g 0 [0, 1] → Calls Try.prog 12 #[heapV (some ⟨g, 0, none⟩) 2 2, .slice none 0 0] w0 fun e w' => WriteAns w0.heap.size [71, 69, 4, 0, 2, 0] e w' ∧ Below w0.heap.size w0 w') := fun g w0 h => iwrite_first g w0 h
  have HBy : Hid (∀ c ∈ b, 0 ≤ c ∧ c ≤ 255) := hb.1
  obtain ⟨hI, hVR, hRl⟩ := image_read hb.1 hf
  have hbl : 0 < b.length := by rw [← hI]; unfold imageB; simp
  obtain ⟨gb, ob, rfl, hrb⟩ := hb.2 hbl
  have Hrb : Hid (BRow w gb ob b) := hrb
  clear hrb
  have hR1 : Hid (∀ w0, BytesAt (some ⟨gb, ob, none⟩) b w0 → Calls Try.prog 15 #[.slice (some ⟨gb, ob, none⟩) b.length bcap] w0 fun e w' => ReadAns w0.heap.size V R e w' ∧ Below w0.heap.size w0 w') := fun w0 h0 => by
    have := iread_any (some ⟨gb, ob, none⟩) bcap b w0 h0 hbm
    rw [hf] at this; exact this
  have hW1 : Hid (∀ g g' w0, Row w0 g 0 V → Row w0 g' 0 R → Calls Try.prog 12 #[heapV (some ⟨g, 0, none⟩) V.length V.length, .slice (some ⟨g', 0, none⟩) R.length R.length] w0 fun e w' => WriteAns w0.heap.size b e w' ∧ Below w0.heap.size w0 w') := fun g g' w0 h1 h2 => by
    have := iwrite_good V R (some ⟨g, 0, none⟩) (some ⟨g', 0, none⟩) V.length R.length w0 (fun _ => ⟨g, 0, rfl, h1⟩) (fun _ => ⟨g', 0, rfl, h2⟩) hVR hRl
    rw [hI] at this; exact this
  have HBA : Hid (BytesAt (some ⟨gb, ob, none⟩) b w) := hb
  have HR : Hid (WordsAt ad W w) := hr
  have HO : Hid (RootsAt rad roots w) := hroots
  have hW3 : Hid (∀ w0, WordsAt ad W w0 → RootsAt rad roots w0 → Calls Try.prog 12 #[heapV ad W.length cap, .slice rad roots.length rcap] w0 fun e w' => e = .returned (.tuple #[.slice none 0 0, .agg #[.int .i64 C, .int .i64 D]]) ∧ Below w0.heap.size w0 w') := hW
  have hCb : (C != 0) = true := by simpa using hC
  clear hW hC
  clear hb hr hroots hf hbm hI hVR hRl hbl
  go_enter Try.func6, Try.ntmps6
  go_wp2_with (first | (go_at_call_of 12 (Value.slice none 0 0); refine (h1.out (w.heap.size + 1) _ (by have := row_first (w.alloc (.cells #[.slice ad W.length cap] 24)); simpa using this)).mono ?_; rintro e w1 ⟨⟨g1, c1, rfl, hg1, hh1⟩, hb1⟩; obtain ⟨k1, _, _, _, _, z1⟩ := boxes1 hb1; have hB1 := below2 hb1; have z10 : w.heap.size < w1.heap.size := (by omega); have q1 := str_row (n := 6) (cap := c1) ((hh1.same ((Below.refl _ _).alloc (Nat.le_refl _) (.cells #[.int .i64 0, .int .i64 0] 27))).row bytes_first) rfl; rw [str_first] at q1; have hB1a : Below w.heap.size w (w1.alloc (.cells #[.int .i64 0, .int .i64 0] 27)) := (hB1.alloc hB1.size _); have nHX : ¬ w.heap.size = w1.heap.size := (by omega)) | (go_at_call_of 15 (Value.slice (some ⟨gb, ob, none⟩) b.length bcap); refine (hR1.out _ (HBA.out.below hB1a)).mono ?_; rintro e w2 ⟨⟨g2, g2', rfl, r2, r2', hg2, hg2'⟩, hb2⟩; obtain ⟨x0, x1, fx0, fx1, zX⟩ := box2W hb2; have hB2 := hB1.trans ((below_call hb2).mono hB1.size); have k2 := through (below_call hb2) k1 z10; have z02 : w.heap.size < w2.heap.size := (by omega); have St2 := std_new (yv := sl g2 V.length V.length) (A := 0) (B := 0) (t := 24) hB2 k2 x0 x1 fx0 fx1 z10 zX; have nXY : ¬ w1.heap.size = w2.heap.size := (by omega); have hg2a : w1.heap.size < g2 := (by simp at hg2; omega); have hg2b : w1.heap.size < g2' := (by simp at hg2'; omega)) | (go_at_call_of 12 (sl g2' R.length R.length); refine (hW1.out g2 g2' _ (by repeat (first | refine row_set ?_ (by dsimp only; omega) _ | refine Row.alloc ?_ _ | exact r2)) (by repeat (first | refine row_set ?_ (by dsimp only; omega) _ | refine Row.alloc ?_ _ | exact r2'))).mono ?_; rintro e w3 ⟨⟨g3, c3, rfl, hg3, hh3⟩, hb3⟩; have St3 := St2.below hb3; have x0a := St3.x0; have x1a := St3.x1; have fx0a := St3.fx0; have fx1a := St3.fx1; have yya := St3.y; have fya := St3.fy; have hha := St3.h; have lza := St3.lz; have lXa : w1.heap.size < w3.heap.size := (by omega); have lHa : w.heap.size < w3.heap.size := (by omega); have q3 := str_row (n := b.length) (cap := c3) ((hh3.same ((Below.refl _ _).alloc (Nat.le_refl _) (.cells #[.int .i64 0, .int .i64 0] 27))).row HBy.out) rfl; have q4 := str_row (n := b.length) (cap := bcap) (Hrb.out.same (St3.bel.alloc St3.bel.size (.cells #[.int .i64 0, .int .i64 0] 27))) rfl) | (go_at_call 8; refine (kvast_no ad rad W.length cap roots.length rcap _ hl hrl).mono ?_; rintro e w4 ⟨rfl, hb4⟩; have St4 := (St3.alloc _).below hb4; have x0b := St4.x0; have x1b := St4.x1; have fx0b := St4.fx0; have fx1b := St4.fx1; have yyb := St4.y; have fyb := St4.fy; have hhb := St4.h; have lzb := St4.lz; have lXb : w1.heap.size < w4.heap.size := (by omega); have lHb : w.heap.size < w4.heap.size := (by omega)) | (go_at_call_of 12 (Value.slice rad roots.length rcap); refine (hW3.out _ (HR.out.below St4.bel) (HO.out.below St4.bel)).mono ?_; rintro e w5 ⟨rfl, hb5⟩; have St5 := St4.below hb5; have x0c := St5.x0; have x1c := St5.x1; have fx0c := St5.fx0; have fx1c := St5.fx1; have yyc := St5.y; have fyc := St5.fy; have hhc := St5.h; have lzc := St5.lz; have lXc : w1.heap.size < w5.heap.size := (by omega); have lHc : w.heap.size < w5.heap.size := (by omega)))
  go_ret
  exact ⟨ret_bool (by simp), (St5.setX C D).bel⟩

set_option maxRecDepth 20000 in
set_option maxHeartbeats 4000000 in
theorem walk_o_good (b W roots : List Int) (bad ad rad : Option Addr) (bcap cap rcap : Nat) (w : World) (hbm : b.length ≤ maxLen) (hb : BytesAt bad b w) (hr : WordsAt ad W w) (hroots : RootsAt rad roots w) (V R : List Int) (hf : readP b = .ok (V, R)) (h : (rootsOf W roots).1 = 0) (h6 : roots.length ≤ 600) :
    Calls Try.prog 6 #[.slice bad b.length bcap, .agg #[.slice ad W.length cap], .slice rad roots.length rcap] w fun e w' => e = .returned (.bool true) ∧ Below w.heap.size w w' := by
  have h1 : Hid (∀ g w0, Row w0 g 0 [0, 1] → Calls Try.prog 12 #[heapV (some ⟨g, 0, none⟩) 2 2, .slice none 0 0] w0 fun e w' => WriteAns w0.heap.size [71, 69, 4, 0, 2, 0] e w' ∧ Below w0.heap.size w0 w') := fun g w0 h => iwrite_first g w0 h
  have HBy : Hid (∀ c ∈ b, 0 ≤ c ∧ c ≤ 255) := hb.1
  obtain ⟨hI, hVR, hRl⟩ := image_read hb.1 hf
  have hbl : 0 < b.length := by rw [← hI]; unfold imageB; simp
  obtain ⟨gb, ob, rfl, hrb⟩ := hb.2 hbl
  have Hrb : Hid (BRow w gb ob b) := hrb
  clear hrb
  have hR1 : Hid (∀ w0, BytesAt (some ⟨gb, ob, none⟩) b w0 → Calls Try.prog 15 #[.slice (some ⟨gb, ob, none⟩) b.length bcap] w0 fun e w' => ReadAns w0.heap.size V R e w' ∧ Below w0.heap.size w0 w') := fun w0 h0 => by
    have := iread_any (some ⟨gb, ob, none⟩) bcap b w0 h0 hbm
    rw [hf] at this; exact this
  have hW1 : Hid (∀ g g' w0, Row w0 g 0 V → Row w0 g' 0 R → Calls Try.prog 12 #[heapV (some ⟨g, 0, none⟩) V.length V.length, .slice (some ⟨g', 0, none⟩) R.length R.length] w0 fun e w' => WriteAns w0.heap.size b e w' ∧ Below w0.heap.size w0 w') := fun g g' w0 h1 h2 => by
    have := iwrite_good V R (some ⟨g, 0, none⟩) (some ⟨g', 0, none⟩) V.length R.length w0 (fun _ => ⟨g, 0, rfl, h1⟩) (fun _ => ⟨g', 0, rfl, h2⟩) hVR hRl
    rw [hI] at this; exact this
  have HBA : Hid (BytesAt (some ⟨gb, ob, none⟩) b w) := hb
  have HR : Hid (WordsAt ad W w) := hr
  have HO : Hid (RootsAt rad roots w) := hroots
  obtain ⟨hc, _, _⟩ := roots_zero h
  obtain ⟨w2', wl, _⟩ := front_out (check_fine hc).1
  have hl : W.length ≤ 5000 := by omega
  have hrl : roots.length ≤ 5000 := by omega
  have hlm : W.length ≤ 1000000 := by omega
  have hrm : roots.length ≤ 1000000 := by omega
  have hW2 : 2 ≤ W.length := w2'
  have hW3 : Hid (∀ w0, WordsAt ad W w0 → RootsAt rad roots w0 → Calls Try.prog 12 #[heapV ad W.length cap, .slice rad roots.length rcap] w0 fun e w' => WriteAns w0.heap.size (imageB W roots) e w' ∧ Below w0.heap.size w0 w') := fun w0 a1 a2 => iwrite_good W roots ad rad cap rcap w0 a1 a2 h h6
  have hR3 : Hid (∀ ad cap w0, BytesAt ad (imageB W roots) w0 → Calls Try.prog 15 #[.slice ad (imageB W roots).length cap] w0 fun e w' => ReadAns w0.heap.size W roots e w' ∧ Below w0.heap.size w0 w') :=
    fun ad cap w0 hb => iread_image W roots ad cap w0 h h6 (by have := image_short h h6; unfold maxLen; omega) hb
  have HBI : Hid (∀ c ∈ imageB W roots, 0 ≤ c ∧ c ≤ 255) := image_bytes W roots
  have hWW : (W == W) = true := by simp
  have hRR : (roots == roots) = true := by simp
  generalize imageB W roots = I at *
  clear h h6 hc w2' wl
  clear hb hr hroots hf hbm hI hVR hRl hbl
  go_enter Try.func6, Try.ntmps6
  go_wp2_with (first | (go_at_call_of 12 (Value.slice none 0 0); refine (h1.out (w.heap.size + 1) _ (by have := row_first (w.alloc (.cells #[.slice ad W.length cap] 24)); simpa using this)).mono ?_; rintro e w1 ⟨⟨g1, c1, rfl, hg1, hh1⟩, hb1⟩; obtain ⟨k1, _, _, _, _, z1⟩ := boxes1 hb1; have hB1 := below2 hb1; have z10 : w.heap.size < w1.heap.size := (by omega); have q1 := str_row (n := 6) (cap := c1) ((hh1.same ((Below.refl _ _).alloc (Nat.le_refl _) (.cells #[.int .i64 0, .int .i64 0] 27))).row bytes_first) rfl; rw [str_first] at q1; have hB1a : Below w.heap.size w (w1.alloc (.cells #[.int .i64 0, .int .i64 0] 27)) := (hB1.alloc hB1.size _); have nHX : ¬ w.heap.size = w1.heap.size := (by omega)) | (go_at_call_of 15 (Value.slice (some ⟨gb, ob, none⟩) b.length bcap); refine (hR1.out _ (HBA.out.below hB1a)).mono ?_; rintro e w2 ⟨⟨g2, g2', rfl, r2, r2', hg2, hg2'⟩, hb2⟩; obtain ⟨x0, x1, fx0, fx1, zX⟩ := box2W hb2; have hB2 := hB1.trans ((below_call hb2).mono hB1.size); have k2 := through (below_call hb2) k1 z10; have z02 : w.heap.size < w2.heap.size := (by omega); have St2 := std_new (yv := sl g2 V.length V.length) (A := 0) (B := 0) (t := 24) hB2 k2 x0 x1 fx0 fx1 z10 zX; have nXY : ¬ w1.heap.size = w2.heap.size := (by omega); have hg2a : w1.heap.size < g2 := (by simp at hg2; omega); have hg2b : w1.heap.size < g2' := (by simp at hg2'; omega)) | (go_at_call_of 12 (sl g2' R.length R.length); refine (hW1.out g2 g2' _ (by repeat (first | refine row_set ?_ (by dsimp only; omega) _ | refine Row.alloc ?_ _ | exact r2)) (by repeat (first | refine row_set ?_ (by dsimp only; omega) _ | refine Row.alloc ?_ _ | exact r2'))).mono ?_; rintro e w3 ⟨⟨g3, c3, rfl, hg3, hh3⟩, hb3⟩; have St3 := St2.below hb3; have x0a := St3.x0; have x1a := St3.x1; have fx0a := St3.fx0; have fx1a := St3.fx1; have yya := St3.y; have fya := St3.fy; have hha := St3.h; have lza := St3.lz; have lXa : w1.heap.size < w3.heap.size := (by omega); have lHa : w.heap.size < w3.heap.size := (by omega); have q3 := str_row (n := b.length) (cap := c3) ((hh3.same ((Below.refl _ _).alloc (Nat.le_refl _) (.cells #[.int .i64 0, .int .i64 0] 27))).row HBy.out) rfl; have q4 := str_row (n := b.length) (cap := bcap) (Hrb.out.same (St3.bel.alloc St3.bel.size (.cells #[.int .i64 0, .int .i64 0] 27))) rfl) | (go_at_call 8; refine (kvast_no ad rad W.length cap roots.length rcap _ hl hrl).mono ?_; rintro e w4 ⟨rfl, hb4⟩; have St4 := (St3.alloc _).below hb4; have x0b := St4.x0; have x1b := St4.x1; have fx0b := St4.fx0; have fx1b := St4.fx1; have yyb := St4.y; have fyb := St4.fy; have hhb := St4.h; have lzb := St4.lz; have lXb : w1.heap.size < w4.heap.size := (by omega); have lHb : w.heap.size < w4.heap.size := (by omega)) | (go_at_call_of 12 (Value.slice rad roots.length rcap); refine (hW3.out _ (HR.out.below St4.bel) (HO.out.below St4.bel)).mono ?_; rintro e w5 ⟨⟨g5, c5, rfl, hg5, hh5⟩, hb5⟩; have St5 := St4.below hb5; have x0c := St5.x0; have x1c := St5.x1; have fx0c := St5.fx0; have fx1c := St5.fx1; have yyc := St5.y; have fyc := St5.fy; have hhc := St5.h; have lzc := St5.lz; have lXc : w1.heap.size < w5.heap.size := (by omega); have lHc : w.heap.size < w5.heap.size := (by omega); have St5s := St5.setX 0 0; have hg5a : ¬ g5 = w1.heap.size := (by omega); have hh5s := ((hh5.block (Below.heap_setCell w5 ⟨w1.heap.size, 0, none⟩ (.int .i64 0) _ (by dsimp only; exact hg5a)) (by simp [World.setCell])).block (Below.heap_setCell (w5.setCell ⟨w1.heap.size, 0, none⟩ (.int .i64 0)) ⟨w1.heap.size, 1, none⟩ (.int .i64 0) _ (by dsimp only; exact hg5a)) (by simp [World.setCell]))) | (go_at_call_of 15 (sl g5 I.length c5); refine (hR3.out _ _ _ (own_bytes hh5s HBI.out)).mono ?_; rintro e w6 ⟨⟨g6, g6', rfl, r6, r6', hg6, hg6'⟩, hb6⟩; have St6 := St5s.below hb6; have x0d := St6.x0; have x1d := St6.x1; have fx0d := St6.fx0; have fx1d := St6.fx1; have yyd := St6.y; have fyd := St6.fy; have hhd := St6.h; have lzd := St6.lz; have lXd : w1.heap.size < w6.heap.size := (by omega); have lHd : w.heap.size < w6.heap.size := (by omega); have hg6a : w5.heap.size ≤ g6 := (by simpa [World.setCell] using hg6); have hg6b : w5.heap.size ≤ g6' := (by simpa [World.setCell] using hg6')) | (go_at_call_of 9 (Value.slice ad W.length cap); refine (kints_any W W _ _ _ (Reads.of_row (by repeat (first | refine row_set ?_ (by dsimp only; omega) _ | refine Row.alloc ?_ _ | exact r6))) (reads_words (HR.out.below (by repeat (first | refine below_drewN ?_ _ | refine Below.setCell ?_ (by dsimp only; omega) _ | refine Below.alloc ?_ (by first | omega | (simp; omega)) _ | exact St6.bel))) hW2) hlm).mono ?_; rw [hWW]; rintro e w7 ⟨rfl, m7, rfl⟩) | (go_at_call_of 9 (Value.slice rad roots.length rcap); refine (kints_any roots roots _ _ _ (Reads.below (Reads.of_row (by repeat (first | refine row_set ?_ (by dsimp only; omega) _ | refine Row.alloc ?_ _ | exact r6'))) (below_drewN (Below.refl _ _) _)) (reads_roots (HO.out.below (by repeat (first | refine below_drewN ?_ _ | refine Below.setCell ?_ (by dsimp only; omega) _ | refine Below.alloc ?_ (by first | omega | (simp; omega)) _ | exact St6.bel)))) hrm).mono ?_; rw [hRR]; rintro e w8 ⟨rfl, m8, rfl⟩))
  go_ret
  refine ⟨ret_bool (by simp), ?_⟩
  repeat (first | refine below_drewN ?_ _ | refine Below.setCell ?_ (by dsimp only; omega) _ | refine Below.alloc ?_ (by first | omega | (simp; omega)) _ | exact St6.bel)


theorem walk (b W roots : List Int) (bad ad rad : Option Addr) (bcap cap rcap : Nat) (w : World) (hbm : b.length ≤ maxLen) (hm : W.length ≤ maxLen) (hrm : roots.length ≤ maxLen) (hb : BytesAt bad b w) (hr : WordsAt ad W w) (hroots : RootsAt rad roots w) :
    Calls Try.prog 6 #[.slice bad b.length bcap, .agg #[.slice ad W.length cap], .slice rad roots.length rcap] w fun e w' => e = .returned (.bool true) ∧ Below w.heap.size w w' := by
  by_cases hl : W.length ≤ 5000 ∧ roots.length ≤ 5000
  · by_cases h : (rootsOf W roots).1 = 0
    · by_cases h6 : roots.length ≤ 600
      · cases hf : readP b with
        | error f => exact walk_e_good b W roots bad ad rad bcap cap rcap w hbm hb hr hroots f hf h h6
        | ok VR => exact walk_o_good b W roots bad ad rad bcap cap rcap w hbm hb hr hroots VR.1 VR.2 hf h h6
      · cases hf : readP b with
        | error f => exact walk_e_bad b W roots bad ad rad bcap cap rcap w hbm hb hr hroots f hf 1 0 (by decide) hl.1 hl.2 (fun w0 h1 h2 => iwrite_many W roots ad rad cap rcap w0 h1 h2 hl.2 h (by omega))
        | ok VR => exact walk_o_bad b W roots bad ad rad bcap cap rcap w hbm hb hr hroots VR.1 VR.2 hf 1 0 (by decide) hl.1 hl.2 (fun w0 h1 h2 => iwrite_many W roots ad rad cap rcap w0 h1 h2 hl.2 h (by omega))
    · cases hf : readP b with
      | error f => exact walk_e_bad b W roots bad ad rad bcap cap rcap w hbm hb hr hroots f hf _ _ h hl.1 hl.2 (fun w0 h1 h2 => iwrite_bad W roots ad rad cap rcap w0 hm h1 h2 hl.2 h)
      | ok VR => exact walk_o_bad b W roots bad ad rad bcap cap rcap w hbm hb hr hroots VR.1 VR.2 hf _ _ h hl.1 hl.2 (fun w0 h1 h2 => iwrite_bad W roots ad rad cap rcap w0 hm h1 h2 hl.2 h)
  · cases hf : readP b with
    | error f => exact walk_e_big b W roots bad ad rad bcap cap rcap w hbm hb hr hroots f hf hm hrm (by omega)
    | ok VR => exact walk_o_big b W roots bad ad rad bcap cap rcap w hbm hb hr hroots VR.1 VR.2 hf hm hrm (by omega)


set_option maxRecDepth 100000 in
theorem lifted (os : Os) (started : os.Started) (H : Type) (enc : TypeId × Value → H) :
    ReturnsInHanded {} Try.checked os 6 .any (Rows.imageBackSpec.pre6 enc Try.prog Try.f6 Rows.imageBackRow.domain false) (Rows.imageBackSpec.post enc Try.prog Try.f6 false true false false) := by
  refine returnsInHanded_of_change (C := Try.checked) own started (by kernel_rfl) Try.func6
    (ChangeSpec.witness6 (enc := enc) (C := Try.checked) false ⟨#[], #[.slice none 0 0, .agg #[.slice none 0 0], .slice none 0 0], []⟩ 8 (by kernel_rfl) (by kernel_rfl) (by kernel_rfl) (by kernel_rfl)) ?_
  intro W base args ds gs before hval0 hW hcnd _
  have hval : ∀ (j : Nat) t v, Try.f6.params[j]? = some t → args[j]? = some v → Value.okWide Try.prog W .any base t v := hval0
  have hW' := hW
  obtain ⟨p, q, hA0, hV, rfl, hfz, hnd⟩ := hW
  have hA : DataW.TrodAll enc Try.prog W 0 (fun _ => true) true Try.f6.params.toList args.toList ds p := hA0
  rw [Try.params6] at hA hval
  obtain ⟨v0, vs0, d0, ds0, p0, q0, hargs, rfl, rfl, h0, r0⟩ := trodAll_cons hA
  obtain ⟨v1, vs1, d1, ds1, p1, q1, rfl, rfl, rfl, h1, r1⟩ := trodAll_cons r0
  obtain ⟨v2, vs2, d2, ds2, p2, q2, rfl, rfl, rfl, h2, r2⟩ := trodAll_cons r1
  obtain ⟨rfl, rfl, rfl⟩ := trodAll_nil r2
  obtain rfl : args = #[v0, v1, v2] := by cases args; simp_all
  obtain ⟨rfl, rfl⟩ := trodVars_none hV
  have lt0 : ∀ x ∈ p0, x.block < W.heap.size := by obtain ⟨m, hm⟩ := h0; exact DataW.trod_lt m _ _ _ hm
  have lt1 : ∀ x ∈ p1, x.block < W.heap.size := by obtain ⟨m, hm⟩ := h1; exact DataW.trod_lt m _ _ _ hm
  have lt2 : ∀ x ∈ p2, x.block < W.heap.size := by obtain ⟨m, hm⟩ := h2; exact DataW.trod_lt m _ _ _ hm
  obtain ⟨ad0, cap0, L0, rfl, hm0, hr0⟩ := open_bytes (hval 0 33 v0 rfl rfl) h0
  obtain ⟨ad1, cap1, L1, rfl, hm1, hr1⟩ := open_heap (hval 1 24 v1 rfl rfl) h1
  obtain ⟨ad2, cap2, L2, rfl, hm2, hr2⟩ := open_ints' (hval 2 22 v2 rfl rfl) h2
  clear hA0 hval0
  refine (walk L0 L1 L2 ad0 ad1 ad2 cap0 cap1 cap2 W hm0 hm1 hm2 hr0 hr1 hr2).mono fun e W' ⟨he, bel⟩ => ?_
  subst he
  exact ⟨_, rfl, _, _, _, [], _, [], hW', trodAll_mk1 (shut_bool lt4 _), (trodAll_cons_mk (Below.trod laidOut (by kernel_rfl) (of_decide_eq_true (by kernel_rfl)) h0 bel lt0) (trodAll_cons_mk (Below.trod laidOut (by kernel_rfl) (of_decide_eq_true (by kernel_rfl)) h1 bel lt1) (trodAll_cons_mk (Below.trod laidOut (by kernel_rfl) (of_decide_eq_true (by kernel_rfl)) h2 bel lt2) trodAll_mk0))), rfl, bel.frame _, fun h => by cases h⟩

theorem over : Rows.imageBackRow.holds Try.pinned (OpenSpec.ofChange Rows.imageBackSpec) :=
  OpenClaim.holds_of_wide 6 Try.f6 rfl rfl rfl rfl rfl rfl rfl ⟨rfl, rfl, rfl, rfl, rfl⟩ rfl rfl rfl rfl rfl (by kernel_rfl) Try.func6 (by kernel_rfl)
    (of_decide_eq_true (by kernel_rfl)) (by unfold Func.isWrapper; first | (rw [if_pos (by decide +kernel)]; kernel_rfl) | (rw [if_neg (by decide +kernel)]; exact ⟨rfl, rfl⟩))
    (fun os started H enc _ => lifted os started H enc)

end Go.Proofs.Ytdacgjjkgagjhac.imageBack
namespace Go.Proofs.Ytdacgjjkgagjhac
/-- The statement. -/
theorem imageBack_holds : Rows.ImageBackSaid := imageBack.over
#print axioms imageBack_holds
end Go.Proofs.Ytdacgjjkgagjhac
