/- What MoveTwice's law leans on: the document's example, boxes that are stored anew. -/
import Derived.Test.YtfmapgbkajlfkaaLawKit
import Derived.Test.YtfmapgbkajlfkaaMoveGo
import Derived.Test.YtfmapgbkajlfkaaSweep
import Derived.Test.YtfmapgbkajlfkaaKeepInts
namespace Go.Proofs.Ytfmapgbkajlfkaa.moveTwice
open Go.ChangeShapes Go.WideShapes Go.ChangeAt Go.RowKit Go.Joins Go.Deep

/-! The document's example. -/
abbrev W0 : List Int := [0, 3, 0, 1, 4, 0, 0, 2, 4, 4]
abbrev K0 : List Int := [0, 3, 0, 2, 4, 12, 0, 1, 4, 0]
theorem unfit0 : unfit W0 2 = none := by
  rw [unfit_in (by decide) (by decide), show nextAt W0 2 = 6 by decide, unfit_in (by decide) (by decide), show nextAt W0 6 = 10 by decide, unfit_end (by decide)]
theorem places0 : places W0 2 = [2, 6] := by
  rw [places_in (by decide), show nextAt W0 2 = 6 by decide, places_in (by decide), show nextAt W0 6 = 10 by decide, places_end (by decide)]
theorem thing12 : thingB W0 12 = true := by unfold thingB beginB; rw [places0]; decide
theorem thing4 : thingB W0 4 = true := by unfold thingB beginB; rw [places0]; decide
theorem check0 : checkOf W0 = (0, 0) := by
  rw [check_things (by decide) unfit0, places0]
  have nil0 : nilB W0 0 = true := by decide
  have stand0 : standB W0 0 0 = true := by decide
  have stand4 : standB W0 0 4 = true := by unfold standB; rw [if_neg (by decide)]; unfold nilB; rw [thing4]; decide
  refine fault_mk _ _ (fun q hq => ?_) (by decide)
  rcases List.mem_cons.1 hq with rfl | hq
  · exact ⟨nil0, (bad_none _ _).2 (fun k hk => by match k, hk with | 0, _ => exact stand0), by simp, by decide, by decide⟩
  · rw [List.mem_singleton] at hq; subst hq
    exact ⟨nil0, (bad_none _ _).2 (fun k hk => by match k, hk with | 0, _ => exact stand4), by simp, by decide, by decide⟩
theorem ok12 : ∀ x ∈ [(12 : Int)], okRef W0 x := fun x hx => by
  rw [List.mem_singleton] at hx; subst hx
  unfold okRef nilB; rw [thing12]; decide
theorem roots0 : (rootsOf W0 [12]).1 = 0 := by rw [rootsOf_ok (by rw [check0]) ok12]
theorem bfs0 : Bfs W0 [12] [12, 4] := by
  have s : come W0 [] [12] = [12] := by rw [come_add ⟨by decide, thing12⟩]; rfl
  have n1 : come W0 [12] (leadsAt W0 (pl2 (wd [12] 0))) = [12, 4] := by
    rw [show leadsAt W0 (pl2 (wd [12] 0)) = [0, 4] by decide, come_skip (fun h => by rw [thing_zero] at h; cases h.2), come_add ⟨by decide, thing4⟩]; rfl
  have n2 : come W0 [12, 4] (leadsAt W0 (pl2 (wd [12, 4] 1))) = [12, 4] := by
    rw [show leadsAt W0 (pl2 (wd [12, 4] 1)) = [0, 0] by decide, come_skip (fun h => by rw [thing_zero] at h; cases h.2), come_skip (fun h => by rw [thing_zero] at h; cases h.2)]; rfl
  have w0 : Way W0 [12] [12] 0 := by have := Way.start (W := W0) (R := [12]); rwa [s] at this
  have w1 : Way W0 [12] [12, 4] 1 := by have := w0.next (by decide); rwa [n1] at this
  have w2 : Way W0 [12] [12, 4] 2 := by have := w1.next (by decide); rwa [n2] at this
  exact w2
theorem row0 : bfsF W0 [12] = [12, 4] := (bfsF_is W0 [12]).last bfs0
theorem turn0 : turnP W0 [6, 2] 0 = 0 := by unfold turnP; rw [if_neg (by rw [thing_zero]; decide)]
theorem turn4 : turnP W0 [6, 2] 4 = 12 := by unfold turnP; rw [if_pos thing4]; decide
theorem turn12 : turnP W0 [6, 2] 12 = 4 := by unfold turnP; rw [if_pos thing12]; decide
theorem new0 : mvR W0 [12] = [4] := by
  unfold mvR; rw [row0]
  show [turnP W0 [6, 2] 12] = [4]
  rw [turn12]
theorem words0 : mvW W0 [12] = K0 := by
  unfold mvW; rw [row0]
  show movedW W0 [6, 2] = K0
  have e6 : thingW (turnP W0 [6, 2]) W0 6 = [turnP W0 [6, 2] 0, 2, 4, turnP W0 [6, 2] 4] := by
    unfold thingW slotsW; rw [if_neg (by decide)]; rfl
  have e2 : thingW (turnP W0 [6, 2]) W0 2 = [turnP W0 [6, 2] 0, 1, 4, turnP W0 [6, 2] 0] := by
    unfold thingW slotsW; rw [if_neg (by decide)]; rfl
  unfold movedW
  rw [show [6, 2].flatMap (thingW (turnP W0 [6, 2]) W0) = thingW (turnP W0 [6, 2]) W0 6 ++ thingW (turnP W0 [6, 2]) W0 2 by simp, e6, e2, turn0, turn4]; rfl

/-! What is moved, once more. -/
theorem again {W R : List Int} (hc : (checkOf W).1 = 0) (hr : ∀ x ∈ R, okRef W x) : mvW (mvW W R) (mvR W R) = mvW W R ∧ mvR (mvW W R) (mvR W R) = mvR W R := by
  obtain ⟨f', hf, h1, h2⟩ := (bfsF_is W R).again hc hr
  have e : f' = bfsF (mvW W R) (mvR W R) := Bfs.last hf (bfsF_is _ _)
  subst e
  exact ⟨h1, h2⟩

abbrev lit10 (a b c d e f g h i j : Int) : Obj := .cells #[.int .i64 a, .int .i64 b, .int .i64 c, .int .i64 d, .int .i64 e, .int .i64 f, .int .i64 g, .int .i64 h, .int .i64 i, .int .i64 j] 3
theorem row_lit {w : World} {a b c d e f g h i j : Int} (hw : ∀ x ∈ [a, b, c, d, e, f, g, h, i, j], (Lit.int .i64 x).wf = true) : Row (w.alloc (lit10 a b c d e f g h i j)) w.heap.size 0 [a, b, c, d, e, f, g, h, i, j] := by
  refine ⟨by simp, fun k hk => ?_, fun k => wf_mk hw k⟩
  have hk9 : k < 10 := hk
  rw [cell_at2 (by simp), Nat.zero_add]
  match k, hk9 with
  | 0, _ => rfl
  | 1, _ => rfl
  | 2, _ => rfl
  | 3, _ => rfl
  | 4, _ => rfl
  | 5, _ => rfl
  | 6, _ => rfl
  | 7, _ => rfl
  | 8, _ => rfl
  | 9, _ => rfl
theorem row_first (w : World) (o : Obj) : Row (((w.alloc o).alloc (lit10 0 3 0 1 4 0 0 2 4 4)).alloc (.cells #[.int .i64 12] 3)) (w.heap.size + 1) 0 W0 := by
  have := (row_lit (w := w.alloc o) (a := 0) (b := 3) (c := 0) (d := 1) (e := 4) (f := 0) (g := 0) (h := 2) (i := 4) (j := 4) (by decide)).alloc (.cells #[.int .i64 12] 3)
  simpa using this
theorem root_first (w : World) (o o' : Obj) : RootsAt (some ⟨w.heap.size + 1 + 1, 0, none⟩) [12] (((w.alloc o).alloc o').alloc (.cells #[.int .i64 12] 3)) := fun _ => by
  refine ⟨w.heap.size + 1 + 1, 0, rfl, by simp, fun k hk => ?_, fun k => wf_mk (xs := [12]) (by decide) k⟩
  have hk1 : k < 1 := hk
  rw [cell_at2 (by simp), Nat.zero_add]
  match k, hk1 with
  | 0, _ => rfl

/-- What Collect answers of the example. -/
def Col0 (e : Ending) (w : World) : Prop := ∃ g c g' c', e = .returned (.tuple #[.agg #[sl g 10 c], sl g' 1 c', .agg #[.int .i64 0, .int .i64 0]]) ∧ Hid (Reads w (sl g 10 c) K0) ∧ w.cell? ⟨g', 0, none⟩ = some (.int .i64 4) ∧ g' < w.heap.size
theorem collect0 (b b' : Nat) (w : World) (h1 : Row w b 0 W0) (h2 : RootsAt (some ⟨b', 0, none⟩) [12] w) :
    Calls Try.prog 7 #[heapV (some ⟨b, 0, none⟩) 10 10, .slice (some ⟨b', 0, none⟩) 1 1] w fun e w' => Col0 e w' ∧ Below w.heap.size w w' := by
  refine (mcollect_own W0 [12] (some ⟨b, 0, none⟩) (some ⟨b', 0, none⟩) 10 1 w (fun _ => ⟨b, 0, rfl, h1⟩) h2 (by decide) roots0).mono fun e w' hp => ⟨?_, hp.2⟩
  obtain ⟨g, c, g', c', he, _, _, hK, hL⟩ := hp.1
  rw [new0, words0] at he
  rw [words0] at hK
  rw [new0] at hL
  exact ⟨g, c, g', c', he, Reads.of_own hK, own_cell (W := [4]) hL (by decide), own_lt hL⟩
theorem ints0 (v : Value) (b : Nat) (w : World) (h1 : Reads w v K0) (h2 : Row w b 0 K0) :
    Calls Try.prog 13 #[v, .slice (some ⟨b, 0, none⟩) 10 10] w fun e w' => e = .returned (.bool true) ∧ Below w.heap.size w w' := by
  refine (kints_any K0 K0 v (.slice (some ⟨b, 0, none⟩) 10 10) w h1 (Reads.of_row h2) (by decide)).mono ?_
  rintro e w' ⟨rfl, m, rfl⟩
  exact ⟨rfl, below_drewN (Below.refl _ _) m⟩
theorem kints_same' (xs : List Int) (v v' : Value) (w : World) (hx : Reads w v xs) (hy : Reads w v' xs) (hm : xs.length ≤ 1000000) :
    Calls Try.prog 13 #[v, v'] w fun e w' => e = .returned (.bool true) ∧ Below w.heap.size w w' := by
  refine (kints_any xs xs v v' w hx hy hm).mono ?_
  rintro e w' ⟨rfl, m, rfl⟩
  exact ⟨by simp, below_drewN (Below.refl _ _) m⟩

/-- What lies in two boxes, whatever is made behind them. -/
def Two3 (w : World) (a : Nat) (x y z : Value) : Prop :=
  (w.cell? ⟨a, 0, none⟩ = some x ∧ w.cell? ⟨a + 1, 0, none⟩ = some y ∧ w.cell? ⟨a + 1, 1, none⟩ = some z) ∧ (w.frozen? ⟨a, 0, none⟩ = false ∧ w.frozen? ⟨a + 1, 0, none⟩ = false ∧ w.frozen? ⟨a + 1, 1, none⟩ = false) ∧ a + 1 < w.heap.size
theorem Two3.new (w : World) (x y z : Value) (t t' : TypeId) : Two3 ((w.alloc (.cells #[x] t)).alloc (.cells #[y, z] t')) w.heap.size x y z := by
  refine ⟨⟨?_, ?_, ?_⟩, ⟨?_, ?_, ?_⟩, by simp⟩
  · rw [cell_past _ (by simp), cell_at2 rfl]; rfl
  · rw [cell_at2 (by simp)]; rfl
  · rw [cell_at2 (by simp)]; rfl
  · rw [frozen_past _ (by simp), frozen_at2 rfl]
  · rw [frozen_at2 (by simp)]
  · rw [frozen_at2 (by simp)]
theorem Two3.below {w w' : World} {a : Nat} {x y z : Value} (h : Two3 w a x y z) (hb : Below w.heap.size w w') : Two3 w' a x y z := by
  obtain ⟨⟨c0, c1, c2⟩, ⟨f0, f1, f2⟩, hz⟩ := h
  have := hb.size
  exact ⟨⟨through hb c0 (by dsimp only; omega), through hb c1 (by dsimp only; omega), through hb c2 (by dsimp only; omega)⟩, ⟨throughF hb f0 (by dsimp only; omega), throughF hb f1 (by dsimp only; omega), throughF hb f2 (by dsimp only; omega)⟩, by omega⟩
/-- The two boxes, stored anew. -/
abbrev put3 (w : World) (a : Nat) (x y z : Value) : World := ((w.setCell ⟨a, 0, none⟩ x).setCell ⟨a + 1, 0, none⟩ y).setCell ⟨a + 1, 1, none⟩ z
theorem Two3.put {w : World} {a : Nat} {x y z : Value} (h : Two3 w a x y z) (x' y' z' : Value) : Two3 (put3 w a x' y' z') a x' y' z' := by
  obtain ⟨⟨c0, c1, c2⟩, ⟨f0, f1, f2⟩, hz⟩ := h
  refine ⟨⟨?_, ?_, ?_⟩, ⟨by simpa using f0, by simpa using f1, by simpa using f2⟩, by simpa [World.setCell] using hz⟩
  · rw [World.cell?_setCell_other _ _ _ _ (by simp), World.cell?_setCell_other _ _ _ _ (by simp)]
    exact World.cell?_setCell_same' _ _ _ (by rw [c0]; rfl)
  · rw [World.cell?_setCell_other _ _ _ _ (by simp)]
    exact World.cell?_setCell_same' _ _ _ (by rw [World.cell?_setCell_other _ _ _ _ (by simp), c1]; rfl)
  · exact World.cell?_setCell_same' _ _ _ (by rw [World.cell?_setCell_other _ _ _ _ (by simp), World.cell?_setCell_other _ _ _ _ (by simp), c2]; rfl)
theorem size_put3 (w : World) (a : Nat) (x y z : Value) : (put3 w a x y z).heap.size = w.heap.size := by simp [World.setCell]
theorem below_put3 {w w' : World} {B a : Nat} {x y z : Value} (h : Below B w w') (ha : B ≤ a) : Below B w (put3 w' a x y z) :=
  ((h.setCell (p := ⟨a, 0, none⟩) ha _).setCell (p := ⟨a + 1, 0, none⟩) (by dsimp only; omega) _).setCell (p := ⟨a + 1, 1, none⟩) (by dsimp only; omega) _
theorem own_put3 {w : World} {b cap n : Nat} {xs : List Value} {a : Nat} {x y z : Value} (h : w.ownsRow 0 3 1 (sl b n cap) n xs) (h0 : b ≠ a) (h1 : b ≠ a + 1) : (put3 w a x y z).ownsRow 0 3 1 (sl b n cap) n xs :=
  own_set' (own_set' (own_set' h (a := ⟨a, 0, none⟩) h0 _) (a := ⟨a + 1, 0, none⟩) h1 _) (a := ⟨a + 1, 1, none⟩) h1 _
theorem Two3.other {w : World} {a b : Nat} {x y z x' y' z' : Value} (h : Two3 w a x y z) (hb : a + 1 < b) : Two3 (put3 w b x' y' z') a x y z := by
  obtain ⟨⟨c0, c1, c2⟩, ⟨f0, f1, f2⟩, hz⟩ := h
  have oth : ∀ (k i j l : Nat) (v : Value) (w : World) (u : Value), k ≠ j → w.cell? ⟨k, i, none⟩ = some u → (w.setCell ⟨j, l, none⟩ v).cell? ⟨k, i, none⟩ = some u := fun k i j l v w u hk hc => by
    rw [World.cell?_setCell_other _ _ _ _ (fun e => hk (by injection e with e; exact e.symm))]; exact hc
  refine ⟨⟨?_, ?_, ?_⟩, ⟨by simpa using f0, by simpa using f1, by simpa using f2⟩, by simpa [World.setCell] using hz⟩
  · exact oth _ _ _ _ _ _ _ (by omega) (oth _ _ _ _ _ _ _ (by omega) (oth _ _ _ _ _ _ _ (by omega) c0))
  · exact oth _ _ _ _ _ _ _ (by omega) (oth _ _ _ _ _ _ _ (by omega) (oth _ _ _ _ _ _ _ (by omega) c1))
  · exact oth _ _ _ _ _ _ _ (by omega) (oth _ _ _ _ _ _ _ (by omega) (oth _ _ _ _ _ _ _ (by omega) c2))
theorem row_second (w : World) (o o' : Obj) : Row (((w.alloc o).alloc o').alloc (lit10 0 3 0 2 4 12 0 1 4 0)) (w.heap.size + 1 + 1) 0 K0 := by
  have := row_lit (w := (w.alloc o).alloc o') (a := 0) (b := 3) (c := 0) (d := 2) (e := 4) (f := 12) (g := 0) (h := 1) (i := 4) (j := 0) (by decide)
  simpa using this
theorem two_lit {w w' : World} {x y z : Value} {t t' : TypeId} {o : Obj} (hb : Below (((w.alloc (.cells #[x] t)).alloc (.cells #[y, z] t')).alloc o).heap.size (((w.alloc (.cells #[x] t)).alloc (.cells #[y, z] t')).alloc o) w') : Two3 w' w.heap.size x y z :=
  ((Two3.new w x y z t t').below ((Below.refl _ _).alloc (Nat.le_refl _) _)).below hb
end Go.Proofs.Ytfmapgbkajlfkaa.moveTwice
