/- reach.Alike: whether two heaps are alike, or the fault of one of them. -/
import Derived.Test.YtpapaadclkdbkaaHold
import Derived.Test.YtpapaadclkdbkaaReachGo
namespace Go.Proofs.Ytpapaadclkdbkaa
open Go.RowKit

/-- What sideOf answers. -/
def SideAns (W : List Int) (b cap bm B : Nat) (e : Ending) (w : World) : Prop := ∃ m, e = .returned (sideV b W.length cap bm m) ∧ B ≤ m ∧ w.ownsMap Try.prog 3 (plainElem Try.prog 3) m 0 (.map [] : DataW Unit)

theorem map_set {w : World} {m n : Nat} {D : DataW Unit} (h : w.ownsMap Try.prog 3 (plainElem Try.prog 3) m n D) {a : Addr} (ha : m ≠ a.block) (x : Value) : (w.setCell a x).ownsMap Try.prog 3 (plainElem Try.prog 3) m n D :=
  map_block h (Below.heap_setCell _ _ _ _ (fun e => ha (by rw [e])))

set_option maxHeartbeats 1000000 in
theorem side_any (W : List Int) (b cap bm : Nat) (w : World) :
    Calls Try.prog 45 #[viewV b W.length cap bm] w fun e w' => SideAns W b cap bm w.heap.size e w' ∧ Below w.heap.size w w' := by
  have hmm := @run_makeMap Try.prog
  go_enter Try.func45, Try.ntmps45
  go_wp2
  have ho : (((w.alloc (.cells #[sl b W.length cap, .map (some bm)] 54)).alloc (.cells #[sl b W.length cap, .map (some bm), .map (some (w.heap.size + 1 + 1))] 76)).alloc (.map #[] 0)).ownsMap Try.prog 3 (plainElem Try.prog 3) (w.heap.size + 1 + 1) 0 (.map [] : DataW Unit) := by
    have := World.ownsMap_made (H := Unit) ((w.alloc (.cells #[sl b W.length cap, .map (some bm)] 54)).alloc (.cells #[sl b W.length cap, .map (some bm), .map (some (w.heap.size + 1 + 1))] 76)) Try.prog 3 (plainElem Try.prog 3); simpa using this
  have R : ∀ j, (((w.alloc (.cells #[sl b W.length cap, .map (some bm)] 54)).alloc (.cells #[sl b W.length cap, .map (some bm), .map (some (w.heap.size + 1 + 1))] 76)).alloc (.map #[] 0)).cell? ⟨w.heap.size + 1, j, none⟩ = #[sl b W.length cap, Value.map (some bm), Value.map (some (w.heap.size + 1 + 1))][j]? := fun j => by
    rw [cell_past _ (by simp)]; exact cell_at2 (by simp)
  have r0 := R 0
  have r1 := R 1
  have r2 := R 2
  refine bodyPost_ret (v := sideV b W.length cap bm (w.heap.size + 1 + 1)) (by simp [results, Try.results45, go_sem, r0, r1, r2]) rfl ⟨⟨w.heap.size + 1 + 1, rfl, by omega, ho⟩, ?_⟩
  exact (((Below.refl _ _).alloc (Nat.le_refl _) _).alloc (by simp) _).alloc (by simp; omega) _

/-- The pairing at its beginning. -/
theorem pairing_start {W V : List Int} {b cap bm b' cap' bm' L m1 m2 Q : Nat} {w : World} (h1 : IsView w b cap bm W) (h2 : IsView w b' cap' bm' V) (hl : b < L ∧ bm < L ∧ b' < L ∧ bm' < L) (hm : L ≤ m1 ∧ L ≤ m2 ∧ m1 ≠ Q ∧ m2 ≠ Q ∧ m1 ≠ m2 ∧ L ≤ Q) (o1 : w.ownsMap Try.prog 3 (plainElem Try.prog 3) m1 0 (.map [] : DataW Unit)) (o2 : w.ownsMap Try.prog 3 (plainElem Try.prog 3) m2 0 (.map [] : DataW Unit))
    (C0 : w.cell? ⟨Q, 0, none⟩ = some (sl b W.length cap)) (C1 : w.cell? ⟨Q, 1, none⟩ = some (.map (some bm))) (C2 : w.cell? ⟨Q, 2, none⟩ = some (.map (some m1))) (C3 : w.cell? ⟨Q, 3, none⟩ = some (sl b' V.length cap')) (C4 : w.cell? ⟨Q, 4, none⟩ = some (.map (some bm'))) (C5 : w.cell? ⟨Q, 5, none⟩ = some (.map (some m2))) (C6 : w.cell? ⟨Q, 6, none⟩ = some (.slice none 0 0)) (fz : w.frozen? ⟨Q, 6, none⟩ = false) (hQ : Q < w.heap.size) :
    Pairing W V b cap bm b' cap' bm' L m1 m2 Q [] (.slice none 0 0) (.map []) (.map []) w :=
  ⟨h1, h2, hl, hm, C0, C1, C2, C3, C4, C5, C6, fz, ⟨o1, fun x => rfl, fun x y h => by cases h⟩, ⟨o2, fun x => rfl, fun x y h => by cases h⟩, World.ownsRow_nil _ _ _ _, hQ⟩

theorem boxes112 {w w' : World} {a c z v : Value} {t t' t'' : TypeId} (hb : Below (((w.alloc (.cells #[a] t)).alloc (.cells #[c] t')).alloc (.cells #[z, v] t'')).heap.size (((w.alloc (.cells #[a] t)).alloc (.cells #[c] t')).alloc (.cells #[z, v] t'')) w') :
    w'.cell? ⟨w.heap.size, 0, none⟩ = some a ∧ w'.cell? ⟨w.heap.size + 1, 0, none⟩ = some c ∧ w'.cell? ⟨w.heap.size + 1 + 1, 0, none⟩ = some z ∧ w'.cell? ⟨w.heap.size + 1 + 1, 1, none⟩ = some v ∧ w'.frozen? ⟨w.heap.size + 1 + 1, 0, none⟩ = false ∧ w'.frozen? ⟨w.heap.size + 1 + 1, 1, none⟩ = false ∧ w.heap.size + 1 + 1 < w'.heap.size := by
  have hs := hb.size
  refine ⟨?_, ?_, ?_, ?_, ?_, ?_, by simp at hs; omega⟩
  · rw [hb.cell (p := ⟨w.heap.size, 0, none⟩) (by simp; omega), cell_past _ (by simp; omega), cell_past _ (by simp)]; simp
  · rw [hb.cell (p := ⟨w.heap.size + 1, 0, none⟩) (by simp), cell_past _ (by simp), cell_at2 (by simp)]; rfl
  · rw [hb.cell (p := ⟨w.heap.size + 1 + 1, 0, none⟩) (by simp), cell_at2 (by simp)]; rfl
  · rw [hb.cell (p := ⟨w.heap.size + 1 + 1, 1, none⟩) (by simp), cell_at2 (by simp)]; rfl
  · rw [hb.frozen (p := ⟨w.heap.size + 1 + 1, 0, none⟩) (by simp)]; exact frozen_at2 (by simp)
  · rw [hb.frozen (p := ⟨w.heap.size + 1 + 1, 1, none⟩) (by simp)]; exact frozen_at2 (by simp)
theorem words3 {W : List Int} {ad : Option Addr} {w : World} {o1 o2 o3 : Obj} (hr : WordsAt ad W w) : WordsAt ad W (((w.alloc o1).alloc o2).alloc o3) := fun h => let ⟨b, off, e, r⟩ := hr h; ⟨b, off, e, ((r.alloc _).alloc _).alloc _⟩
theorem allocs3 (w : World) (o1 o2 o3 : Obj) : Below w.heap.size w (((w.alloc o1).alloc o2).alloc o3) := (((Below.refl _ _).alloc (Nat.le_refl _) _).alloc (by simp) _).alloc (by simp; omega) _
theorem words_same {W : List Int} {ad : Option Addr} {w w' : World} (hr : WordsAt ad W w) (hb : Below w.heap.size w w') : WordsAt ad W w' := fun h => let ⟨b, off, e, r⟩ := hr h; ⟨b, off, e, r.same hb⟩

set_option maxHeartbeats 2000000 in
theorem galike_one (W V R S : List Int) (ad ad' rad sad : Option Addr) (cap cap' rc sc : Nat) (w : World) (hm : W.length ≤ maxLen) (hr : WordsAt ad W w) (hR : RootsAt rad R w) (hRl : R.length ≤ 5000) (h : (rootsOf W R).1 ≠ 0) :
    Calls Try.prog 26 #[heapV ad W.length cap, .slice rad R.length rc, heapV ad' V.length cap', .slice sad S.length sc] w fun e w' => e = .returned (.tuple #[.bool false, .agg #[.int .i64 (rootsOf W R).1, .int .i64 (rootsOf W R).2]]) ∧ Below w.heap.size w w' := by
  have hs : Hid (∀ w0, WordsAt ad W w0 → RootsAt rad R w0 → Calls Try.prog 34 #[heapV ad W.length cap, .slice rad R.length rc] w0 fun e w' => e = .returned (.tuple #[noView, .agg #[.int .i64 (rootsOf W R).1, .int .i64 (rootsOf W R).2]]) ∧ Below w0.heap.size w0 w') :=
    fun w0 h1 h2 => rsee_bad W R ad rad cap rc w0 hm h1 h2 hRl h
  have HR : Hid (WordsAt ad W w) := hr
  have HO : Hid (RootsAt rad R w) := hR
  generalize rootsOf W R = F at *
  have hb : (F.1 != 0) = true := by simpa using h
  clear h hr hR
  go_enter Try.func26, Try.ntmps26
  go_wp2_with (go_at_call 34; refine (hs.out _ (words3 HR.out) (HO.out.below (allocs3 _ _ _ _))).mono ?_; rintro e w1 ⟨rfl, hb1⟩; obtain ⟨c0, c1, c2, c3, c4, c5, hz⟩ := boxes112 hb1; obtain ⟨d0, d1, d2, d3, d4, d5, _⟩ := boxes112 ((hb1.alloc (by simp; omega) (Obj.cells #[Value.slice none 0 0, Value.map none] 54)).alloc (by simp; omega) (Obj.cells #[Value.int IntKind.i64 F.1, Value.int IntKind.i64 F.2] 29)))
  go_region
  all_goals go_wp2_with fail
  all_goals refine bodyPost_ret (v := .tuple #[.bool false, .agg #[.int .i64 F.1, .int .i64 F.2]]) (by simp [results, Try.results26, go_sem, d2, d3]) rfl ⟨rfl, ?_⟩
  all_goals repeat (first | refine Below.drew ?_ | refine Below.setCell ?_ (by dsimp only; omega) _ | refine Below.alloc ?_ (by first | omega | (simp; omega)) _ | exact below3 hb1)

theorem twosF {w w' : World} {x y z v : Value} {t t' : TypeId} (hb : Below ((w.alloc (.cells #[x, y] t)).alloc (.cells #[z, v] t')).heap.size ((w.alloc (.cells #[x, y] t)).alloc (.cells #[z, v] t')) w') :
    w'.frozen? ⟨w.heap.size, 0, none⟩ = false ∧ w'.frozen? ⟨w.heap.size, 1, none⟩ = false ∧ w'.frozen? ⟨w.heap.size + 1, 0, none⟩ = false ∧ w'.frozen? ⟨w.heap.size + 1, 1, none⟩ = false := by
  refine ⟨?_, ?_, ?_, ?_⟩
  · rw [hb.frozen (p := ⟨w.heap.size, 0, none⟩) (by simp; omega), frozen_past _ (by simp)]; exact frozen_at2 rfl
  · rw [hb.frozen (p := ⟨w.heap.size, 1, none⟩) (by simp; omega), frozen_past _ (by simp)]; exact frozen_at2 rfl
  · rw [hb.frozen (p := ⟨w.heap.size + 1, 0, none⟩) (by simp)]; exact frozen_at2 (by simp)
  · rw [hb.frozen (p := ⟨w.heap.size + 1, 1, none⟩) (by simp)]; exact frozen_at2 (by simp)

set_option maxHeartbeats 4000000 in
theorem galike_two (W V R S : List Int) (ad ad' rad sad : Option Addr) (cap cap' rc sc : Nat) (w : World) (hmV : V.length ≤ maxLen) (hr : WordsAt ad W w) (hR : RootsAt rad R w) (hRl : R.length ≤ 5000) (h : (rootsOf W R).1 = 0) (hr' : WordsAt ad' V w) (hS : RootsAt sad S w) (hSl : S.length ≤ 5000) (h' : (rootsOf V S).1 ≠ 0) :
    Calls Try.prog 26 #[heapV ad W.length cap, .slice rad R.length rc, heapV ad' V.length cap', .slice sad S.length sc] w fun e w' => e = .returned (.tuple #[.bool false, .agg #[.int .i64 (rootsOf V S).1, .int .i64 (rootsOf V S).2]]) ∧ Below w.heap.size w w' := by
  have hs : Hid (∀ w0, WordsAt ad W w0 → RootsAt rad R w0 → Calls Try.prog 34 #[heapV ad W.length cap, .slice rad R.length rc] w0 fun e w' => ViewAns W w0.heap.size e w' ∧ Below w0.heap.size w0 w') :=
    fun w0 h1 h2 => rsee_good W R ad rad cap rc w0 h1 h2 hRl h
  have hs' : Hid (∀ w0, WordsAt ad' V w0 → RootsAt sad S w0 → Calls Try.prog 34 #[heapV ad' V.length cap', .slice sad S.length sc] w0 fun e w' => e = .returned (.tuple #[noView, .agg #[.int .i64 (rootsOf V S).1, .int .i64 (rootsOf V S).2]]) ∧ Below w0.heap.size w0 w') :=
    fun w0 h1 h2 => rsee_bad V S ad' sad cap' sc w0 hmV h1 h2 hSl h'
  have HR : Hid (WordsAt ad W w) := hr
  have HO : Hid (RootsAt rad R w) := hR
  have HR' : Hid (WordsAt ad' V w) := hr'
  have HO' : Hid (RootsAt sad S w) := hS
  generalize rootsOf V S = F at *
  have hb : (F.1 != 0) = true := by simpa using h'
  clear h h' hr hR hr' hS
  go_enter Try.func26, Try.ntmps26
  go_wp2_with (first | (go_at_call_of 34 (W.length); refine (hs.out _ (words3 HR.out) (HO.out.below (allocs3 _ _ _ _))).mono ?_; rintro e w1 ⟨⟨b, cap1, bm, rfl, hv, hb0, hbm, hne⟩, hb1⟩; obtain ⟨c0, c1, c2, c3, c4, c5, hz⟩ := boxes112 hb1; have hz1 : w.heap.size + 1 < w1.heap.size := (by omega); have hz0 : w.heap.size < w1.heap.size := (by omega); have HB1 : Hid (Below w.heap.size w ((w1.alloc (Obj.cells #[sl b W.length cap1, Value.map (some bm)] 54)).alloc (Obj.cells #[Value.int IntKind.i64 0, Value.int IntKind.i64 0] 29))) := (((below3 hb1).alloc (by omega) _).alloc (by simp; omega) _)) | (go_at_call_of 34 (V.length); refine (hs'.out _ (words_same HR'.out HB1.out) (HO'.out.below HB1.out)).mono ?_; rintro e w2 ⟨rfl, hb2⟩; obtain ⟨e0, e1, e2, e3, ez⟩ := twos hb2; obtain ⟨g0, g1, g2, g3⟩ := twosF hb2; have hbW := below2 hb2; have s2 := through hbW c2 (by dsimp only; omega); have s3 := through hbW c3 (by dsimp only; omega); have s4 := throughF hbW c4 (by dsimp only; omega); have s5 := throughF hbW c5 (by dsimp only; omega); have ez1 : w.heap.size + 1 + 1 < w2.heap.size := (by omega); have ez2 : w1.heap.size < w2.heap.size := (by omega)))
  have X2 : ∀ o, (((((w2.setCell ⟨w1.heap.size + 1, 0, none⟩ (.int .i64 F.1)).setCell ⟨w1.heap.size + 1, 1, none⟩ (.int .i64 F.2)).setCell ⟨w.heap.size + 1 + 1, 0, none⟩ (.int .i64 F.1)).setCell ⟨w.heap.size + 1 + 1, 1, none⟩ (.int .i64 F.2)).alloc o).cell? ⟨w.heap.size + 1 + 1, 0, none⟩ = some (.int .i64 F.1) := fun o => by
    rw [cell_past _ (by simp [World.setCell]; omega), World.cell?_setCell_other _ _ _ _ (by simp)]
    exact World.cell?_setCell_same' _ _ _ (by rw [World.cell?_setCell_other _ _ _ _ (by simp), World.cell?_setCell_other _ _ _ _ (by simp), s2]; rfl)
  have X3 : ∀ o, (((((w2.setCell ⟨w1.heap.size + 1, 0, none⟩ (.int .i64 F.1)).setCell ⟨w1.heap.size + 1, 1, none⟩ (.int .i64 F.2)).setCell ⟨w.heap.size + 1 + 1, 0, none⟩ (.int .i64 F.1)).setCell ⟨w.heap.size + 1 + 1, 1, none⟩ (.int .i64 F.2)).alloc o).cell? ⟨w.heap.size + 1 + 1, 1, none⟩ = some (.int .i64 F.2) := fun o => by
    rw [cell_past _ (by simp [World.setCell]; omega)]
    exact World.cell?_setCell_same' _ _ _ (by rw [World.cell?_setCell_other _ _ _ _ (by simp), World.cell?_setCell_other _ _ _ _ (by simp), World.cell?_setCell_other _ _ _ _ (by simp), s3]; rfl)
  have hall := (below3 hb1).trans (hbW.mono (below3 hb1).size)
  go_region
  all_goals go_wp2_with fail
  all_goals refine bodyPost_ret (v := .tuple #[.bool false, .agg #[.int .i64 F.1, .int .i64 F.2]]) (by simp [results, Try.results26, go_sem, X2, X3]) rfl ⟨rfl, ?_⟩
  all_goals repeat (first | refine Below.drew ?_ | refine Below.setCell ?_ (by dsimp only; omega) _ | refine Below.alloc ?_ (by first | omega | (simp [World.setCell]; omega)) _ | exact hall)


/-- A pairing that was laid ahead of a call. -/
structure Laid7 (Q : Nat) (w : World) : Prop where
  c0 : w.cell? ⟨Q, 0, none⟩ = some (Value.slice none 0 0)
  c1 : w.cell? ⟨Q, 1, none⟩ = some (Value.map none)
  c2 : w.cell? ⟨Q, 2, none⟩ = some (Value.map none)
  c3 : w.cell? ⟨Q, 3, none⟩ = some (Value.slice none 0 0)
  c4 : w.cell? ⟨Q, 4, none⟩ = some (Value.map none)
  c5 : w.cell? ⟨Q, 5, none⟩ = some (Value.map none)
  c6 : w.cell? ⟨Q, 6, none⟩ = some (Value.slice none 0 0)
  f0 : w.frozen? ⟨Q, 0, none⟩ = false
  f1 : w.frozen? ⟨Q, 1, none⟩ = false
  f2 : w.frozen? ⟨Q, 2, none⟩ = false
  f3 : w.frozen? ⟨Q, 3, none⟩ = false
  f4 : w.frozen? ⟨Q, 4, none⟩ = false
  f5 : w.frozen? ⟨Q, 5, none⟩ = false
  f6 : w.frozen? ⟨Q, 6, none⟩ = false
  lt : Q < w.heap.size
theorem laid7 {w w' : World} (hb : Below (w.alloc (.cells #[Value.slice none 0 0, Value.map none, Value.map none, Value.slice none 0 0, Value.map none, Value.map none, Value.slice none 0 0] 80)).heap.size (w.alloc (.cells #[Value.slice none 0 0, Value.map none, Value.map none, Value.slice none 0 0, Value.map none, Value.map none, Value.slice none 0 0] 80)) w') : Laid7 w.heap.size w' := by
  have C : ∀ j, w'.cell? ⟨w.heap.size, j, none⟩ = #[Value.slice none 0 0, Value.map none, Value.map none, Value.slice none 0 0, Value.map none, Value.map none, Value.slice none 0 0][j]? := fun j => by rw [hb.cell (p := ⟨w.heap.size, j, none⟩) (by simp), cell_at2 rfl]
  have F : ∀ j, w'.frozen? ⟨w.heap.size, j, none⟩ = false := fun j => by rw [hb.frozen (p := ⟨w.heap.size, j, none⟩) (by simp)]; exact frozen_at2 rfl
  exact ⟨C 0, C 1, C 2, C 3, C 4, C 5, C 6, F 0, F 1, F 2, F 3, F 4, F 5, F 6, by have := hb.size; simp at this; omega⟩
theorem Laid7.same {Q : Nat} {w w' : World} (h : Laid7 Q w) (hb : Below w.heap.size w w') : Laid7 Q w' :=
  ⟨through hb h.c0 h.lt, through hb h.c1 h.lt, through hb h.c2 h.lt, through hb h.c3 h.lt, through hb h.c4 h.lt, through hb h.c5 h.lt, through hb h.c6 h.lt, throughF hb h.f0 h.lt, throughF hb h.f1 h.lt, throughF hb h.f2 h.lt, throughF hb h.f3 h.lt, throughF hb h.f4 h.lt, throughF hb h.f5 h.lt, throughF hb h.f6 h.lt, by have := hb.size; have := h.lt; omega⟩

theorem undrew {B : Nat} {w w' : World} (h : Below B w.drew w') : Below B w w' := ⟨h.os, h.tape, h.output, h.size, h.block⟩
theorem cell_drew {w : World} {o : Obj} {a : Addr} {v : Value} (h : w.cell? a = some v) (hl : a.block < w.heap.size) : (w.alloc o).drew.cell? a = some v := (cell_past o hl).trans h
theorem IsView.set_other {w : World} {b cap bm : Nat} {W : List Int} (h : IsView w b cap bm W) {a : Addr} (h1 : b ≠ a.block) (h2 : bm ≠ a.block) (x : Value) : IsView (w.setCell a x) b cap bm W := by
  refine ⟨own_same h.own fun g hg => ?_, h.wf, ?_⟩
  · have : g = b := by simpa [Value.ownBlock, eq_comm] using hg
    exact Below.heap_setCell _ _ _ _ (fun e => h1 (by rw [← this, e]))
  · obtain ⟨n, D, ho, r⟩ := h.begun
    exact ⟨n, D, map_set ho h2 x, r⟩
theorem apart_of {R : List Int} {rad : Option Addr} {m1 m2 Q : Nat} {w w' : World} (h : RootsAt rad R w) (hb : Below w.heap.size w w') (h1 : w.heap.size ≤ m1) (h2 : w.heap.size ≤ m2) (h3 : w.heap.size ≤ Q) : LiesApart m1 m2 Q (.slice none 0 0) rad R w' := fun hl => by
  obtain ⟨rb, ro, e, hr⟩ := h hl
  have := hr.lt
  exact ⟨rb, ro, e, hr.same hb, by omega, by omega, by omega, by simp [Value.ownBlock]⟩
theorem map_same {w w' : World} {m n : Nat} {D : DataW Unit} (h : w.ownsMap Try.prog 3 (plainElem Try.prog 3) m n D) (hb : Below w.heap.size w w') : w'.ownsMap Try.prog 3 (plainElem Try.prog 3) m n D := map_block h (hb.block _ h.lt)

set_option maxHeartbeats 1000000 in
theorem start_put {W V : List Int} {b cap bm b' cap' bm' m1 m2 Q : Nat} {w3 w4 w5 : World} (h1 : IsView w3 b cap bm W) (h2 : IsView w3 b' cap' bm' V) (hl : b < w3.heap.size ∧ bm < w3.heap.size ∧ b' < w3.heap.size ∧ bm' < w3.heap.size) (B4 : Below w3.heap.size w3 w4) (B5 : Below w4.heap.size w4 w5) (o1 : w4.ownsMap Try.prog 3 (plainElem Try.prog 3) m1 0 (.map [] : DataW Unit)) (o2 : w5.ownsMap Try.prog 3 (plainElem Try.prog 3) m2 0 (.map [] : DataW Unit)) (lm1 : w3.heap.size ≤ m1) (lm2 : w4.heap.size ≤ m2) (hm1 : m1 ≠ Q) (hm2 : m2 ≠ Q) (hQ : w3.heap.size ≤ Q) (L7 : Laid7 Q w5) :
    Pairing W V b cap bm b' cap' bm' w3.heap.size m1 m2 Q [] (.slice none 0 0) (.map []) (.map []) (((((((w5.setCell ⟨Q, 0, none⟩ (sl b W.length cap)).setCell ⟨Q, 1, none⟩ (.map (some bm))).setCell ⟨Q, 2, none⟩ (.map (some m1))).setCell ⟨Q, 3, none⟩ (sl b' V.length cap')).setCell ⟨Q, 4, none⟩ (.map (some bm'))).setCell ⟨Q, 5, none⟩ (.map (some m2))).setCell ⟨Q, 6, none⟩ (.slice none 0 0)) ∧ Below w3.heap.size w3 (((((((w5.setCell ⟨Q, 0, none⟩ (sl b W.length cap)).setCell ⟨Q, 1, none⟩ (.map (some bm))).setCell ⟨Q, 2, none⟩ (.map (some m1))).setCell ⟨Q, 3, none⟩ (sl b' V.length cap')).setCell ⟨Q, 4, none⟩ (.map (some bm'))).setCell ⟨Q, 5, none⟩ (.map (some m2))).setCell ⟨Q, 6, none⟩ (.slice none 0 0)) := by
  have B35 : Below w3.heap.size w3 w5 := B4.trans (B5.mono B4.size)
  have hlt := o1.lt
  have hz := B4.size
  have C0 : (((((((w5.setCell ⟨Q, 0, none⟩ (sl b W.length cap)).setCell ⟨Q, 1, none⟩ (.map (some bm))).setCell ⟨Q, 2, none⟩ (.map (some m1))).setCell ⟨Q, 3, none⟩ (sl b' V.length cap')).setCell ⟨Q, 4, none⟩ (.map (some bm'))).setCell ⟨Q, 5, none⟩ (.map (some m2))).setCell ⟨Q, 6, none⟩ (.slice none 0 0)).cell? ⟨Q, 0, none⟩ = some (sl b W.length cap) := by
    rw [World.cell?_setCell_other _ _ _ _ (by simp), World.cell?_setCell_other _ _ _ _ (by simp), World.cell?_setCell_other _ _ _ _ (by simp), World.cell?_setCell_other _ _ _ _ (by simp), World.cell?_setCell_other _ _ _ _ (by simp), World.cell?_setCell_other _ _ _ _ (by simp)]; exact World.cell?_setCell_same' _ _ _ (by rw [L7.c0]; rfl)
  have C1 : (((((((w5.setCell ⟨Q, 0, none⟩ (sl b W.length cap)).setCell ⟨Q, 1, none⟩ (.map (some bm))).setCell ⟨Q, 2, none⟩ (.map (some m1))).setCell ⟨Q, 3, none⟩ (sl b' V.length cap')).setCell ⟨Q, 4, none⟩ (.map (some bm'))).setCell ⟨Q, 5, none⟩ (.map (some m2))).setCell ⟨Q, 6, none⟩ (.slice none 0 0)).cell? ⟨Q, 1, none⟩ = some (.map (some bm)) := by
    rw [World.cell?_setCell_other _ _ _ _ (by simp), World.cell?_setCell_other _ _ _ _ (by simp), World.cell?_setCell_other _ _ _ _ (by simp), World.cell?_setCell_other _ _ _ _ (by simp), World.cell?_setCell_other _ _ _ _ (by simp)]; exact World.cell?_setCell_same' _ _ _ (by rw [World.cell?_setCell_other _ _ _ _ (by simp), L7.c1]; rfl)
  have C2 : (((((((w5.setCell ⟨Q, 0, none⟩ (sl b W.length cap)).setCell ⟨Q, 1, none⟩ (.map (some bm))).setCell ⟨Q, 2, none⟩ (.map (some m1))).setCell ⟨Q, 3, none⟩ (sl b' V.length cap')).setCell ⟨Q, 4, none⟩ (.map (some bm'))).setCell ⟨Q, 5, none⟩ (.map (some m2))).setCell ⟨Q, 6, none⟩ (.slice none 0 0)).cell? ⟨Q, 2, none⟩ = some (.map (some m1)) := by
    rw [World.cell?_setCell_other _ _ _ _ (by simp), World.cell?_setCell_other _ _ _ _ (by simp), World.cell?_setCell_other _ _ _ _ (by simp), World.cell?_setCell_other _ _ _ _ (by simp)]; exact World.cell?_setCell_same' _ _ _ (by rw [World.cell?_setCell_other _ _ _ _ (by simp), World.cell?_setCell_other _ _ _ _ (by simp), L7.c2]; rfl)
  have C3 : (((((((w5.setCell ⟨Q, 0, none⟩ (sl b W.length cap)).setCell ⟨Q, 1, none⟩ (.map (some bm))).setCell ⟨Q, 2, none⟩ (.map (some m1))).setCell ⟨Q, 3, none⟩ (sl b' V.length cap')).setCell ⟨Q, 4, none⟩ (.map (some bm'))).setCell ⟨Q, 5, none⟩ (.map (some m2))).setCell ⟨Q, 6, none⟩ (.slice none 0 0)).cell? ⟨Q, 3, none⟩ = some (sl b' V.length cap') := by
    rw [World.cell?_setCell_other _ _ _ _ (by simp), World.cell?_setCell_other _ _ _ _ (by simp), World.cell?_setCell_other _ _ _ _ (by simp)]; exact World.cell?_setCell_same' _ _ _ (by rw [World.cell?_setCell_other _ _ _ _ (by simp), World.cell?_setCell_other _ _ _ _ (by simp), World.cell?_setCell_other _ _ _ _ (by simp), L7.c3]; rfl)
  have C4 : (((((((w5.setCell ⟨Q, 0, none⟩ (sl b W.length cap)).setCell ⟨Q, 1, none⟩ (.map (some bm))).setCell ⟨Q, 2, none⟩ (.map (some m1))).setCell ⟨Q, 3, none⟩ (sl b' V.length cap')).setCell ⟨Q, 4, none⟩ (.map (some bm'))).setCell ⟨Q, 5, none⟩ (.map (some m2))).setCell ⟨Q, 6, none⟩ (.slice none 0 0)).cell? ⟨Q, 4, none⟩ = some (.map (some bm')) := by
    rw [World.cell?_setCell_other _ _ _ _ (by simp), World.cell?_setCell_other _ _ _ _ (by simp)]; exact World.cell?_setCell_same' _ _ _ (by rw [World.cell?_setCell_other _ _ _ _ (by simp), World.cell?_setCell_other _ _ _ _ (by simp), World.cell?_setCell_other _ _ _ _ (by simp), World.cell?_setCell_other _ _ _ _ (by simp), L7.c4]; rfl)
  have C5 : (((((((w5.setCell ⟨Q, 0, none⟩ (sl b W.length cap)).setCell ⟨Q, 1, none⟩ (.map (some bm))).setCell ⟨Q, 2, none⟩ (.map (some m1))).setCell ⟨Q, 3, none⟩ (sl b' V.length cap')).setCell ⟨Q, 4, none⟩ (.map (some bm'))).setCell ⟨Q, 5, none⟩ (.map (some m2))).setCell ⟨Q, 6, none⟩ (.slice none 0 0)).cell? ⟨Q, 5, none⟩ = some (.map (some m2)) := by
    rw [World.cell?_setCell_other _ _ _ _ (by simp)]; exact World.cell?_setCell_same' _ _ _ (by rw [World.cell?_setCell_other _ _ _ _ (by simp), World.cell?_setCell_other _ _ _ _ (by simp), World.cell?_setCell_other _ _ _ _ (by simp), World.cell?_setCell_other _ _ _ _ (by simp), World.cell?_setCell_other _ _ _ _ (by simp), L7.c5]; rfl)
  have C6 : (((((((w5.setCell ⟨Q, 0, none⟩ (sl b W.length cap)).setCell ⟨Q, 1, none⟩ (.map (some bm))).setCell ⟨Q, 2, none⟩ (.map (some m1))).setCell ⟨Q, 3, none⟩ (sl b' V.length cap')).setCell ⟨Q, 4, none⟩ (.map (some bm'))).setCell ⟨Q, 5, none⟩ (.map (some m2))).setCell ⟨Q, 6, none⟩ (.slice none 0 0)).cell? ⟨Q, 6, none⟩ = some (.slice none 0 0) := by
    exact World.cell?_setCell_same' _ _ _ (by rw [World.cell?_setCell_other _ _ _ _ (by simp), World.cell?_setCell_other _ _ _ _ (by simp), World.cell?_setCell_other _ _ _ _ (by simp), World.cell?_setCell_other _ _ _ _ (by simp), World.cell?_setCell_other _ _ _ _ (by simp), World.cell?_setCell_other _ _ _ _ (by simp), L7.c6]; rfl)
  have HB : Below w3.heap.size w3 (((((((w5.setCell ⟨Q, 0, none⟩ (sl b W.length cap)).setCell ⟨Q, 1, none⟩ (.map (some bm))).setCell ⟨Q, 2, none⟩ (.map (some m1))).setCell ⟨Q, 3, none⟩ (sl b' V.length cap')).setCell ⟨Q, 4, none⟩ (.map (some bm'))).setCell ⟨Q, 5, none⟩ (.map (some m2))).setCell ⟨Q, 6, none⟩ (.slice none 0 0)) := (((((((B35.setCell (p := ⟨Q, 0, none⟩) hQ _).setCell (p := ⟨Q, 1, none⟩) hQ _).setCell (p := ⟨Q, 2, none⟩) hQ _).setCell (p := ⟨Q, 3, none⟩) hQ _).setCell (p := ⟨Q, 4, none⟩) hQ _).setCell (p := ⟨Q, 5, none⟩) hQ _).setCell (p := ⟨Q, 6, none⟩) hQ _)
  have HF : (((((((w5.setCell ⟨Q, 0, none⟩ (sl b W.length cap)).setCell ⟨Q, 1, none⟩ (.map (some bm))).setCell ⟨Q, 2, none⟩ (.map (some m1))).setCell ⟨Q, 3, none⟩ (sl b' V.length cap')).setCell ⟨Q, 4, none⟩ (.map (some bm'))).setCell ⟨Q, 5, none⟩ (.map (some m2))).setCell ⟨Q, 6, none⟩ (.slice none 0 0)).frozen? ⟨Q, 6, none⟩ = false := by simp only [World.frozen?_setCell]; exact L7.f6
  refine ⟨pairing_start (h1.kept_low HB hl.1 hl.2.1) (h2.kept_low HB hl.2.2.1 hl.2.2.2) hl ⟨lm1, by omega, hm1, hm2, by omega, hQ⟩ (map_set (map_set (map_set (map_set (map_set (map_set (map_set (map_same o1 B5) (a := ⟨Q, 0, none⟩) hm1 _) (a := ⟨Q, 1, none⟩) hm1 _) (a := ⟨Q, 2, none⟩) hm1 _) (a := ⟨Q, 3, none⟩) hm1 _) (a := ⟨Q, 4, none⟩) hm1 _) (a := ⟨Q, 5, none⟩) hm1 _) (a := ⟨Q, 6, none⟩) hm1 _) (map_set (map_set (map_set (map_set (map_set (map_set (map_set o2 (a := ⟨Q, 0, none⟩) hm2 _) (a := ⟨Q, 1, none⟩) hm2 _) (a := ⟨Q, 2, none⟩) hm2 _) (a := ⟨Q, 3, none⟩) hm2 _) (a := ⟨Q, 4, none⟩) hm2 _) (a := ⟨Q, 5, none⟩) hm2 _) (a := ⟨Q, 6, none⟩) hm2 _) C0 C1 C2 C3 C4 C5 C6 HF (by simpa [World.setCell] using L7.lt), HB⟩
theorem start_alloc {W V : List Int} {b cap bm b' cap' bm' m1 m2 : Nat} {w3 w4 w5 : World} (h1 : IsView w3 b cap bm W) (h2 : IsView w3 b' cap' bm' V) (hl : b < w3.heap.size ∧ bm < w3.heap.size ∧ b' < w3.heap.size ∧ bm' < w3.heap.size) (B4 : Below w3.heap.size w3 w4) (B5 : Below w4.heap.size w4 w5) (o1 : w4.ownsMap Try.prog 3 (plainElem Try.prog 3) m1 0 (.map [] : DataW Unit)) (o2 : w5.ownsMap Try.prog 3 (plainElem Try.prog 3) m2 0 (.map [] : DataW Unit)) (lm1 : w3.heap.size ≤ m1) (lm2 : w4.heap.size ≤ m2) :
    Pairing W V b cap bm b' cap' bm' w3.heap.size m1 m2 w5.heap.size [] (.slice none 0 0) (.map []) (.map []) (w5.alloc (.cells #[sl b W.length cap, .map (some bm), .map (some m1), sl b' V.length cap', .map (some bm'), .map (some m2), .slice none 0 0] 80)) ∧ Below w3.heap.size w3 (w5.alloc (.cells #[sl b W.length cap, .map (some bm), .map (some m1), sl b' V.length cap', .map (some bm'), .map (some m2), .slice none 0 0] 80)) := by
  have B35 : Below w3.heap.size w3 w5 := B4.trans (B5.mono B4.size)
  have hlt := o1.lt
  have hlt2 := o2.lt
  have hz := B4.size
  have hz5 := B5.size
  have C : ∀ j, (w5.alloc (.cells #[sl b W.length cap, .map (some bm), .map (some m1), sl b' V.length cap', .map (some bm'), .map (some m2), .slice none 0 0] 80)).cell? ⟨w5.heap.size, j, none⟩ = _ := fun j => cell_at2 rfl
  have HB : Below w3.heap.size w3 (w5.alloc (.cells #[sl b W.length cap, .map (some bm), .map (some m1), sl b' V.length cap', .map (some bm'), .map (some m2), .slice none 0 0] 80)) := B35.alloc (by omega) _
  exact ⟨pairing_start (h1.kept_low HB hl.1 hl.2.1) (h2.kept_low HB hl.2.2.1 hl.2.2.2) hl ⟨lm1, by omega, by omega, by omega, by omega, by omega⟩ ((map_same o1 B5).alloc _) (o2.alloc _) (C 0) (C 1) (C 2) (C 3) (C 4) (C 5) (C 6) (frozen_at2 rfl) (by simp), HB⟩

set_option maxHeartbeats 4000000 in
theorem galike_good (W V R S : List Int) (ad ad' rad sad : Option Addr) (cap cap' rc sc : Nat) (w : World) (hr : WordsAt ad W w) (hR : RootsAt rad R w) (hRl : R.length ≤ 5000) (h : (rootsOf W R).1 = 0) (hr' : WordsAt ad' V w) (hS : RootsAt sad S w) (hSl : S.length ≤ 5000) (h' : (rootsOf V S).1 = 0) :
    Calls Try.prog 26 #[heapV ad W.length cap, .slice rad R.length rc, heapV ad' V.length cap', .slice sad S.length sc] w fun e w' => e = .returned (.tuple #[.bool (holdP W V R S), .agg #[.int .i64 0, .int .i64 0]]) ∧ Below w.heap.size w w' := by
  have hs : Hid (∀ w0, WordsAt ad W w0 → RootsAt rad R w0 → Calls Try.prog 34 #[heapV ad W.length cap, .slice rad R.length rc] w0 fun e w' => ViewAns W w0.heap.size e w' ∧ Below w0.heap.size w0 w') :=
    fun w0 h1 h2 => rsee_good W R ad rad cap rc w0 h1 h2 hRl h
  have hs' : Hid (∀ w0, WordsAt ad' V w0 → RootsAt sad S w0 → Calls Try.prog 34 #[heapV ad' V.length cap', .slice sad S.length sc] w0 fun e w' => ViewAns V w0.heap.size e w' ∧ Below w0.heap.size w0 w') :=
    fun w0 h1 h2 => rsee_good V S ad' sad cap' sc w0 h1 h2 hSl h'
  have FW : Hid (Fine W) := fine_of (roots_zero h).1
  have FV : Hid (Fine V) := fine_of (roots_zero h').1
  have HR : Hid (WordsAt ad W w) := hr
  have HO : Hid (RootsAt rad R w) := hR
  have HR' : Hid (WordsAt ad' V w) := hr'
  have HO' : Hid (RootsAt sad S w) := hS
  clear h h' hr hR hr' hS
  go_enter Try.func26, Try.ntmps26
  go_wp2_with (first | (go_at_call_of 34 (W.length); refine (hs.out _ (words3 HR.out) (HO.out.below (allocs3 _ _ _ _))).mono ?_; rintro e w1 ⟨⟨b, cap1, bm, rfl, hv, hb0, hbm, hne⟩, hb1⟩; obtain ⟨c0, c1, c2, c3, c4, c5, hz⟩ := boxes112 hb1; have hz1 : w.heap.size + 1 < w1.heap.size := (by omega); have hz0 : w.heap.size < w1.heap.size := (by omega); have HB1 : Hid (Below w.heap.size w ((w1.alloc (Obj.cells #[sl b W.length cap1, Value.map (some bm)] 54)).alloc (Obj.cells #[Value.int IntKind.i64 0, Value.int IntKind.i64 0] 29))) := (((below3 hb1).alloc (by omega) _).alloc (by simp; omega) _)) | (go_at_call_of 34 (V.length); refine (hs'.out _ (words_same HR'.out HB1.out) (HO'.out.below HB1.out)).mono ?_; rintro e w2 ⟨⟨b', cap2, bm', rfl, hv', hb0', hbm', hne'⟩, hb2⟩; obtain ⟨e0, e1, e2, e3, ez⟩ := twos hb2; obtain ⟨g0, g1, g2, g3⟩ := twosF hb2; have hbW := below2 hb2; have s2 := through hbW c2 (by dsimp only; omega); have s3 := through hbW c3 (by dsimp only; omega); have s4 := throughF hbW c4 (by dsimp only; omega); have s5 := throughF hbW c5 (by dsimp only; omega); have ez1 : w.heap.size + 1 + 1 < w2.heap.size := (by omega); have ez2 : w1.heap.size < w2.heap.size := (by omega)))
  have hall := (below3 hb1).trans (hbW.mono (below3 hb1).size)
  have hv1 : IsView w2 b cap1 bm W := ((hv.alloc _).alloc _).same hb2
  have hl1 := hv.lt
  have hl2 := hv'.lt
  generalize hw3 : (((w2.setCell ⟨w1.heap.size + 1, 0, none⟩ (.int .i64 0)).setCell ⟨w1.heap.size + 1, 1, none⟩ (.int .i64 0)).alloc (Obj.cells #[sl b' V.length cap2, .map (some bm')] 54)) = w3
  have C0 : w3.cell? ⟨w1.heap.size, 0, none⟩ = some (sl b W.length cap1) := by
    rw [← hw3, cell_past _ (by simp [World.setCell]; omega), World.cell?_setCell_other _ _ _ _ (by simp), World.cell?_setCell_other _ _ _ _ (by simp)]; exact e0
  have C1 : w3.cell? ⟨w1.heap.size, 1, none⟩ = some (.map (some bm)) := by
    rw [← hw3, cell_past _ (by simp [World.setCell]; omega), World.cell?_setCell_other _ _ _ _ (by simp), World.cell?_setCell_other _ _ _ _ (by simp)]; exact e1
  have C2 : w3.cell? ⟨w2.heap.size, 0, none⟩ = some (sl b' V.length cap2) := by rw [← hw3, cell_at2 (by simp [World.setCell])]; rfl
  have C3 : w3.cell? ⟨w2.heap.size, 1, none⟩ = some (.map (some bm')) := by rw [← hw3, cell_at2 (by simp [World.setCell])]; rfl
  have D3 : Hid (Below w3.heap.size w3 w3.drew) := (Below.refl _ _).drew
  have hz3 : w2.heap.size < w3.heap.size := by rw [← hw3]; simp [World.setCell]
  have n13 : ¬ w1.heap.size = w3.heap.size := by omega
  have n23 : ¬ w2.heap.size = w3.heap.size := by omega
  have n31 : ¬ w3.heap.size = w1.heap.size := by omega
  have n32 : ¬ w3.heap.size = w2.heap.size := by omega
  have HW3 : Hid (Below w.heap.size w w3) := by
    rw [← hw3]
    exact ((hall.setCell (p := ⟨w1.heap.size + 1, 0, none⟩) (by dsimp only; omega) _).setCell (p := ⟨w1.heap.size + 1, 1, none⟩) (by dsimp only; omega) _).alloc (by simp [World.setCell]; omega) _
  have hbmw := hv.begun.lt
  have hbmw' := hv'.begun.lt
  have HS : Below (w1.heap.size) w2 w3 := by
    rw [← hw3]
    exact (((Below.refl _ _).setCell (p := ⟨w1.heap.size + 1, 0, none⟩) (by dsimp only; omega) _).setCell (p := ⟨w1.heap.size + 1, 1, none⟩) (by dsimp only; omega) _).alloc (by simp [World.setCell]; omega) _
  have HV1 : Hid (IsView w3 b cap1 bm W) := hv1.kept_low HS hl1 hbmw
  have HV2 : Hid (IsView w3 b' cap2 bm' V) := by
    have hx1 : b' ≠ w1.heap.size + 1 := by simp at hb0'; omega
    have hx2 : bm' ≠ w1.heap.size + 1 := by simp at hbm'; omega
    rw [← hw3]
    exact ((hv'.set_other (a := ⟨w1.heap.size + 1, 0, none⟩) hx1 hx2 _).set_other (a := ⟨w1.heap.size + 1, 1, none⟩) hx1 hx2 _).alloc _
  have T2 := through HS s2 (by dsimp only; omega)
  have T3 := through HS s3 (by dsimp only; omega)
  have T4 := throughF HS s4 (by dsimp only; omega)
  have T5 := throughF HS s5 (by dsimp only; omega)
  have HL3 : Hid (b < w3.heap.size ∧ bm < w3.heap.size ∧ b' < w3.heap.size ∧ bm' < w3.heap.size) := ⟨by omega, by omega, by omega, by omega⟩
  have Z2 : w.heap.size + 1 + 1 < w3.heap.size := by omega
  have Zw : w.heap.size ≤ w3.heap.size := by omega
  clear hw3 D3
  go_region_held3 (fun w' => w'.cell? ⟨w1.heap.size, 0, none⟩ = some (sl b W.length cap1) ∧ w'.cell? ⟨w1.heap.size, 1, none⟩ = some (.map (some bm)) ∧ w'.cell? ⟨w2.heap.size, 0, none⟩ = some (sl b' V.length cap2) ∧ w'.cell? ⟨w2.heap.size, 1, none⟩ = some (.map (some bm'))) (go_keep)
    (first
      | (go_at_call_of 45 (W.length); refine (side_any W b cap1 bm _).mono ?_; rintro e w4 ⟨⟨m1, rfl, hm1, o1⟩, hb4⟩; (try (have HL : Hid (Laid7 w3.heap.size w4) := laid7 (w := w3) (undrew hb4))); (try (have HL : Hid (Laid7 w3.heap.size w4) := laid7 (w := w3.drew) hb4)); have k0 := through hb4 (a := ⟨w1.heap.size, 0, none⟩) (by first | assumption | (refine cell_drew (by assumption) (by dsimp only; omega)) | (rw [cell_past _ (by dsimp only [World.drew]; omega)]; assumption)) (by first | (dsimp only [World.drew]; omega) | (simp; omega) | (simp [World.drew]; omega)); have k1 := through hb4 (a := ⟨w1.heap.size, 1, none⟩) (by first | assumption | (refine cell_drew (by assumption) (by dsimp only; omega)) | (rw [cell_past _ (by dsimp only [World.drew]; omega)]; assumption)) (by first | (dsimp only [World.drew]; omega) | (simp; omega) | (simp [World.drew]; omega)); have k2 := through hb4 (a := ⟨w2.heap.size, 0, none⟩) (by first | assumption | (refine cell_drew (by assumption) (by dsimp only; omega)) | (rw [cell_past _ (by dsimp only [World.drew]; omega)]; assumption)) (by first | (dsimp only [World.drew]; omega) | (simp; omega) | (simp [World.drew]; omega)); have k3 := through hb4 (a := ⟨w2.heap.size, 1, none⟩) (by first | assumption | (refine cell_drew (by assumption) (by dsimp only; omega)) | (rw [cell_past _ (by dsimp only [World.drew]; omega)]; assumption)) (by first | (dsimp only [World.drew]; omega) | (simp; omega) | (simp [World.drew]; omega)))
      | (go_at_call_of 45 (V.length); refine (side_any V b' cap2 bm' _).mono ?_; rintro e w5 ⟨⟨m2, rfl, hm2, o2⟩, hb5⟩; (try (have HQ := laid7 hb5; obtain ⟨qc0, qc1, qc2, qc3, qc4, qc5, qc6, qf0, qf1, qf2, qf3, qf4, qf5, qf6, qlt⟩ := HQ)); (try (have HQ := Laid7.same (Hid.out HL) hb5; obtain ⟨qc0, qc1, qc2, qc3, qc4, qc5, qc6, qf0, qf1, qf2, qf3, qf4, qf5, qf6, qlt⟩ := HQ)); have hz4 : w3.heap.size ≤ w4.heap.size := (by first | exact hb4.size | (exact Nat.le_trans (Below.alloc (Below.refl w3.heap.size w3) (Nat.le_refl _) _).size (undrew hb4).size)); have n14 : ¬ w1.heap.size = w4.heap.size := (by omega); have n24 : ¬ w2.heap.size = w4.heap.size := (by omega); have n41 : ¬ w4.heap.size = w1.heap.size := (by omega); have n42 : ¬ w4.heap.size = w2.heap.size := (by omega); have l0 := through hb5 (a := ⟨w1.heap.size, 0, none⟩) (by first | assumption | (refine cell_drew (by assumption) (by dsimp only; omega)) | (rw [cell_past _ (by dsimp only [World.drew]; omega)]; assumption)) (by first | (dsimp only [World.drew]; omega) | (simp; omega) | (simp [World.drew]; omega)); have l1 := through hb5 (a := ⟨w1.heap.size, 1, none⟩) (by first | assumption | (refine cell_drew (by assumption) (by dsimp only; omega)) | (rw [cell_past _ (by dsimp only [World.drew]; omega)]; assumption)) (by first | (dsimp only [World.drew]; omega) | (simp; omega) | (simp [World.drew]; omega)); have l2 := through hb5 (a := ⟨w2.heap.size, 0, none⟩) (by first | assumption | (refine cell_drew (by assumption) (by dsimp only; omega)) | (rw [cell_past _ (by dsimp only [World.drew]; omega)]; assumption)) (by first | (dsimp only [World.drew]; omega) | (simp; omega) | (simp [World.drew]; omega)); have l3 := through hb5 (a := ⟨w2.heap.size, 1, none⟩) (by first | assumption | (refine cell_drew (by assumption) (by dsimp only; omega)) | (rw [cell_past _ (by dsimp only [World.drew]; omega)]; assumption)) (by first | (dsimp only [World.drew]; omega) | (simp; omega) | (simp [World.drew]; omega))))
  · have B4 := undrew hb4
    have HPX := start_alloc HV1.out HV2.out HL3.out B4 hb5 o1 o2 hm1 hm2
    have HQ : Hid (w3.heap.size ≤ w5.heap.size ∧ w3.heap.size ≤ m2) := ⟨by have := hb5.size; omega, by omega⟩
    obtain ⟨HP, HX⟩ := HPX
    have HP' : Hid (Pairing _ _ _ _ _ _ _ _ _ _ _ _ _ _ _ _ _) := HP
    have HX' : Hid (Below _ _ _) := HX
    have LR : Hid (LiesApart m1 m2 w5.heap.size (.slice none 0 0) rad R _) := apart_of HO.out (HW3.out.trans (HX.mono Zw)) (by have := HP.mid.1; omega) (by have := HQ.out.2; omega) (by have := HQ.out.1; omega)
    have LS : Hid (LiesApart m1 m2 w5.heap.size (.slice none 0 0) sad S _) := apart_of HO'.out (HW3.out.trans (HX.mono Zw)) (by have := HP.mid.1; omega) (by have := HQ.out.2; omega) (by have := HQ.out.1; omega)
    clear HP HX
    go_wp2_with (go_at_call 46; refine (hold_any W V R S b cap1 bm b' cap2 bm' w3.heap.size m1 m2 _ _ _ rad sad rc sc _ HP'.out FW.out FV.out LR.out LS.out hRl).mono ?_; rintro e w6 ⟨rfl, hb6⟩; have u2 := through hb6 (through HX'.out T2 Z2) Z2; have u3 := through hb6 (through HX'.out T3 Z2) Z2; have u4 := throughF hb6 (throughF HX'.out T4 Z2) Z2; have u5 := throughF hb6 (throughF HX'.out T5 Z2) Z2)
    have hend : Below w.heap.size w w6 := (HW3.out.trans (HX'.out.mono Zw)).trans (hb6.mono Zw)
    refine bodyPost_ret (v := .tuple #[.bool (holdP W V R S), .agg #[.int .i64 0, .int .i64 0]]) (by simp [results, Try.results26, go_sem, u2, u3]) rfl ⟨rfl, ?_⟩
    exact (hend.setCell (p := ⟨w.heap.size + 1 + 1, 0, none⟩) (by dsimp only; omega) _).setCell (p := ⟨w.heap.size + 1 + 1, 1, none⟩) (by dsimp only; omega) _
  · have B4 := undrew hb4
    have o1l := o1.lt
    have HPX := start_put (Q := w4.heap.size) HV1.out HV2.out HL3.out B4 (below_call hb5) o1 o2 hm1 (by simp at hm2; omega) (by omega) (by simp at hm2; omega) hz4 (laid7 hb5)
    have HQ : Hid (w3.heap.size ≤ w4.heap.size ∧ w3.heap.size ≤ m2) := ⟨hz4, by simp at hm2; omega⟩
    obtain ⟨HP, HX⟩ := HPX
    have HP' : Hid (Pairing _ _ _ _ _ _ _ _ _ _ _ _ _ _ _ _ _) := HP
    have HX' : Hid (Below _ _ _) := HX
    have LR : Hid (LiesApart m1 m2 w4.heap.size (.slice none 0 0) rad R _) := apart_of HO.out (HW3.out.trans (HX.mono Zw)) (by have := HP.mid.1; omega) (by have := HQ.out.2; omega) (by have := HQ.out.1; omega)
    have LS : Hid (LiesApart m1 m2 w4.heap.size (.slice none 0 0) sad S _) := apart_of HO'.out (HW3.out.trans (HX.mono Zw)) (by have := HP.mid.1; omega) (by have := HQ.out.2; omega) (by have := HQ.out.1; omega)
    clear HP HX
    go_wp2_with (go_at_call 46; refine (hold_any W V R S b cap1 bm b' cap2 bm' w3.heap.size m1 m2 _ _ _ rad sad rc sc _ HP'.out FW.out FV.out LR.out LS.out hRl).mono ?_; rintro e w6 ⟨rfl, hb6⟩; have u2 := through hb6 (through HX'.out T2 Z2) Z2; have u3 := through hb6 (through HX'.out T3 Z2) Z2; have u4 := throughF hb6 (throughF HX'.out T4 Z2) Z2; have u5 := throughF hb6 (throughF HX'.out T5 Z2) Z2)
    have hend : Below w.heap.size w w6 := (HW3.out.trans (HX'.out.mono Zw)).trans (hb6.mono Zw)
    refine bodyPost_ret (v := .tuple #[.bool (holdP W V R S), .agg #[.int .i64 0, .int .i64 0]]) (by simp [results, Try.results26, go_sem, u2, u3]) rfl ⟨rfl, ?_⟩
    exact (hend.setCell (p := ⟨w.heap.size + 1 + 1, 0, none⟩) (by dsimp only; omega) _).setCell (p := ⟨w.heap.size + 1 + 1, 1, none⟩) (by dsimp only; omega) _
  · have B4 := below_call (undrew hb4)
    have lq : w3.heap.size + 1 ≤ m1 := by simpa using hm1
    have l4 : w3.heap.size + 1 ≤ w4.heap.size := by simpa using (undrew hb4).size
    have HPX := start_put (Q := w3.heap.size) HV1.out HV2.out HL3.out B4 hb5 o1 o2 (by omega) hm2 (by omega) (by omega) (Nat.le_refl _) (Laid7.same (laid7 (undrew hb4)) hb5)
    have HQ : Hid (w3.heap.size ≤ w3.heap.size ∧ w3.heap.size ≤ m2) := ⟨Nat.le_refl _, by omega⟩
    obtain ⟨HP, HX⟩ := HPX
    have HP' : Hid (Pairing _ _ _ _ _ _ _ _ _ _ _ _ _ _ _ _ _) := HP
    have HX' : Hid (Below _ _ _) := HX
    have LR : Hid (LiesApart m1 m2 w3.heap.size (.slice none 0 0) rad R _) := apart_of HO.out (HW3.out.trans (HX.mono Zw)) (by have := HP.mid.1; omega) (by have := HQ.out.2; omega) (by have := HQ.out.1; omega)
    have LS : Hid (LiesApart m1 m2 w3.heap.size (.slice none 0 0) sad S _) := apart_of HO'.out (HW3.out.trans (HX.mono Zw)) (by have := HP.mid.1; omega) (by have := HQ.out.2; omega) (by have := HQ.out.1; omega)
    clear HP HX
    go_wp2_with (go_at_call 46; refine (hold_any W V R S b cap1 bm b' cap2 bm' w3.heap.size m1 m2 _ _ _ rad sad rc sc _ HP'.out FW.out FV.out LR.out LS.out hRl).mono ?_; rintro e w6 ⟨rfl, hb6⟩; have u2 := through hb6 (through HX'.out T2 Z2) Z2; have u3 := through hb6 (through HX'.out T3 Z2) Z2; have u4 := throughF hb6 (throughF HX'.out T4 Z2) Z2; have u5 := throughF hb6 (throughF HX'.out T5 Z2) Z2)
    have hend : Below w.heap.size w w6 := (HW3.out.trans (HX'.out.mono Zw)).trans (hb6.mono Zw)
    refine bodyPost_ret (v := .tuple #[.bool (holdP W V R S), .agg #[.int .i64 0, .int .i64 0]]) (by simp [results, Try.results26, go_sem, u2, u3]) rfl ⟨rfl, ?_⟩
    exact (hend.setCell (p := ⟨w.heap.size + 1 + 1, 0, none⟩) (by dsimp only; omega) _).setCell (p := ⟨w.heap.size + 1 + 1, 1, none⟩) (by dsimp only; omega) _


end Go.Proofs.Ytpapaadclkdbkaa
