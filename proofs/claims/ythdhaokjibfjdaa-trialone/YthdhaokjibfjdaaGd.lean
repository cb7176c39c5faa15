/- Several texts in one. -/
import Derived.Test.YthdhaokjibfjdaaGh
import Derived.Test.YthdhaokjibfjdaaMemX
import Derived.Test.YthdhaokjibfjdaaRef18fX
import Derived.Test.YthdhaokjibfjdaaLawKitX
import Derived.Test.YthdhaokjibfjdaaRef17aX
import Derived.Test.YthdhaokjibfjdaaRefRootsX
import Derived.Test.YthdhaokjibfjdaaChePlainX
/- What was laid anew: its numbers are numbers of the machine; the program and the document find it alike. -/
namespace Go.Proofs.Ythdhaokjibfjdaa
open Go.RowKit

open Classical in
theorem tells_ex (W R : List Int) : ∃ A, Tells W R A := by
  refine ⟨(List.range W.length).map (fun k : Nat => decide (Reached W R (2 * (k : Int)))), by simp, fun k => ?_⟩
  unfold bt
  rw [List.getD_eq_getElem?_getD, List.getElem?_map]
  by_cases hk : k < W.length
  · rw [List.getElem?_range hk]; simp
  · rw [List.getElem?_eq_none (by simpa using hk)]
    constructor
    · intro h; cases h
    · intro h
      have := (place_ge (reached_place h).1).2
      rw [pl2_two] at this; omega
theorem Moves.holds {W R : List Int} {ps : List Nat} (M : Moves W R ps) : holdP W (movedW W ps) R (R.map (turnP W ps)) = true := by
  obtain ⟨A, hA⟩ := tells_ex W R
  obtain ⟨B, hB⟩ := tells_ex (movedW W ps) (R.map (turnP W ps))
  rw [(M.together hA hB).one_mind]; exact M.alike hA hB

/-- Numbers of the machine. -/
def AllWf (xs : List Int) : Prop := ∀ k, (Lit.int .i64 (wd xs k)).wf = true
theorem wf_mk {xs : List Int} (h : ∀ x ∈ xs, (Lit.int .i64 x).wf = true) : AllWf xs := fun k => by
  by_cases hk : k < xs.length
  · exact h _ (wd_mem hk)
  · have : wd xs k = 0 := by unfold wd; rw [List.getD_eq_getElem?_getD, List.getElem?_eq_none (by omega)]; rfl
    rw [this]; decide
theorem wf_mem {xs : List Int} (h : AllWf xs) {x : Int} (hx : x ∈ xs) : (Lit.int .i64 x).wf = true := by
  obtain ⟨i, _, rfl⟩ := wd_index hx; exact h i
theorem Moves.turn_wf {W R : List Int} {ps : List Nat} (M : Moves W R ps) {o : Int} (h : (Lit.int .i64 o).wf = true) : (Lit.int .i64 (turnP W ps o)).wf = true := by
  unfold turnP
  split
  · by_cases hm : pl2 o ∈ ps
    · have := (place_ge (M.begins hm)).2
      have := M.few
      go_wf
    · rw [newAt_none hm]; decide
  · exact h
theorem Moves.wf {W R : List Int} {ps : List Nat} (M : Moves W R ps) (h : AllWf W) : AllWf (movedW W ps) := by
  refine wf_mk fun x hx => ?_
  unfold movedW at hx
  rcases List.mem_cons.1 hx with rfl | hx
  · exact h 0
  rcases List.mem_cons.1 hx with rfl | hx
  · exact h 1
  obtain ⟨p, hp, hx⟩ := List.mem_flatMap.1 hx
  unfold thingW at hx
  rcases List.mem_cons.1 hx with rfl | hx
  · exact M.turn_wf (h p)
  rcases List.mem_cons.1 hx with rfl | hx
  · exact h (p + 1)
  rcases List.mem_cons.1 hx with rfl | hx
  · exact h (p + 2)
  have hs : ∀ y ∈ slotList W p, (Lit.int .i64 y).wf = true := fun y hy => by
    unfold slotList at hy
    exact wf_mem h (List.mem_of_mem_drop (List.mem_of_mem_take hy))
  unfold slotsW at hx
  split at hx
  · exact hs x hx
  · obtain ⟨y, hy, rfl⟩ := List.mem_map.1 hx
    exact M.turn_wf (hs y hy)
theorem Moves.wf_roots {W R : List Int} {ps : List Nat} (M : Moves W R ps) (h : AllWf R) : AllWf (R.map (turnP W ps)) := by
  refine wf_mk fun x hx => ?_
  obtain ⟨y, hy, rfl⟩ := List.mem_map.1 hx
  exact M.turn_wf (wf_mem h hy)
theorem swept_wf {W R : List Int} (M : Moves W R (stayP W R)) (h : AllWf W) : AllWf (sweptW W R) := M.wf h
theorem sweptR_wf {W R : List Int} (M : Moves W R (stayP W R)) (h : AllWf R) : AllWf (sweptR W R) := M.wf_roots h

end Go.Proofs.Ythdhaokjibfjdaa

/- Ops that came in: how they are opened. -/
namespace Go.Proofs.Ythdhaokjibfjdaa
open Go.ChangeShapes Go.WideShapes Go.ChangeAt Go.RowKit Go.Joins Go.Deep

theorem list_ofO {α : Type} {P : Nat → α → Prop} : ∀ (len : Nat), (∀ i, i < len → ∃ z, P i z) → ∃ l : List α, l.length = len ∧ ∀ i (h : i < l.length), P i l[i]
  | 0, _ => ⟨[], rfl, fun i h => by cases h⟩
  | len + 1, h => by
    obtain ⟨l, hl, hp⟩ := list_ofO len fun i hi => h i (by omega)
    obtain ⟨z, hz⟩ := h len (by omega)
    refine ⟨l ++ [z], by simp [hl], fun i hi => ?_⟩
    by_cases hi' : i < l.length
    · rw [List.getElem_append_left hi']; exact hp i hi'
    · have : i = len := by rw [List.length_append] at hi; simp at hi; omega
      subst this
      rw [List.getElem_append_right (by omega)]
      simp [hl]
      exact hz
theorem cells_atO {w : World} {base n : Nat} {a : Addr} {cs : List Value} (h : w.cells? base a n = some cs) : cs.length = n ∧ ∀ i, i < n → w.cell? (a.add i) = cs[i]? := by
  unfold World.cells? at h
  split at h
  · refine ⟨by simpa using mapM_some_length h, fun i hi => ?_⟩
    exact mapM_some_get h i i (by simp [hi])
  · cases h
theorem cell_addO {w : World} {a : Addr} {m j : Nat} {u : Value} (h : w.cell? ((a.add m).add j) = some u) : w.cell? ⟨a.block, a.off + m + j, none⟩ = some u ∧ (m + j = 0 → a.spot = none) := by
  obtain ⟨b, off, spot⟩ := a
  by_cases h0 : m + j = 0
  · obtain ⟨rfl, rfl⟩ : m = 0 ∧ j = 0 := by omega
    have hs : spot = none := World.cell?_spot (a := ⟨b, off, spot⟩) h
    subst hs
    exact ⟨h, fun _ => rfl⟩
  · refine ⟨?_, fun h => absurd h h0⟩
    have e : ((⟨b, off, spot⟩ : Addr).add m).add j = ⟨b, off + m + j, none⟩ := by
      unfold Addr.add
      by_cases hm : m = 0
      · subst hm
        rw [if_pos rfl, if_neg (by omega)]
        show (⟨b, off + j, none⟩ : Addr) = ⟨b, off + 0 + j, none⟩
        rw [Nat.add_zero]
      · rw [if_neg hm]
        by_cases hj : j = 0
        · subst hj; rw [if_pos rfl]; rfl
        · rw [if_neg hj]
    rw [e] at h
    exact h
theorem list6 {α : Type} {l : List α} (h : l.length = 6) : ∃ c0 c1 c2 c3 c4 c5, l = [c0, c1, c2, c3, c4, c5] := by
  match l, h with
  | [c0, c1, c2, c3, c4, c5], _ => exact ⟨c0, c1, c2, c3, c4, c5, rfl⟩
/-- What is told of the type of ops. -/
structure OpTy (t : TypeId) (f0 f1 f2 f3 f4 f5 : Field) : Prop where
  under : Try.prog.underlying t = some (.struct #[f0, f1, f2, f3, f4, f5])
  one : oneCellFields Try.prog #[f0, f1, f2, f3, f4, f5] = true
  cells : Try.prog.cellsOf t = 6
  ints : ∀ f ∈ [f0, f1, f2, f3, f4, f5], Try.prog.underlying f.type = some (.int .i64)
set_option maxRecDepth 100000 in
theorem op_of_trod {H : Type} {enc : TypeId × Value → H} {w : World} {base : Nat} {spare : Nat → Bool} {held : Bool} {t : TypeId} {f0 f1 f2 f3 f4 f5 : Field} (T : OpTy t f0 f1 f2 f3 f4 f5) (fuel : Nat) (cs : List Value) (y : DataW H × List MemPlace) (h : DataW.trod enc Try.prog w base spare held fuel t cs = some y) :
    ∃ p : OpT, cs = [.int .i64 p.kind, .int .i64 p.o, .int .i64 p.pos, .int .i64 p.what, .int .i64 p.form, .int .i64 p.size] := by
  obtain ⟨xs, m, hm, _, hl, hlen, hff⟩ := DataW.trod_struct T.under h
  rw [T.cells] at hl
  obtain ⟨y0, y1, y2, y3, y4, y5, rfl⟩ := list6 (show xs.length = 6 from hlen)
  obtain ⟨c0, c1, c2, c3, c4, c5, rfl⟩ := list6 hl
  obtain ⟨o0, k0⟩ := hone_of T.one 0 f0 rfl
  obtain ⟨o1, k1⟩ := hone_of T.one 1 f1 rfl
  obtain ⟨o2, k2⟩ := hone_of T.one 2 f2 rfl
  obtain ⟨o3, k3⟩ := hone_of T.one 3 f3 rfl
  obtain ⟨o4, k4⟩ := hone_of T.one 4 f4 rfl
  obtain ⟨o5, k5⟩ := hone_of T.one 5 f5 rfl
  have e0 : DataW.trod enc Try.prog w base spare held m f0.type [c0] = some y0 := by simpa [o0, k0] using hff 0 f0 rfl
  have e1 : DataW.trod enc Try.prog w base spare held m f1.type [c1] = some y1 := by simpa [o1, k1] using hff 1 f1 rfl
  have e2 : DataW.trod enc Try.prog w base spare held m f2.type [c2] = some y2 := by simpa [o2, k2] using hff 2 f2 rfl
  have e3 : DataW.trod enc Try.prog w base spare held m f3.type [c3] = some y3 := by simpa [o3, k3] using hff 3 f3 rfl
  have e4 : DataW.trod enc Try.prog w base spare held m f4.type [c4] = some y4 := by simpa [o4, k4] using hff 4 f4 rfl
  have e5 : DataW.trod enc Try.prog w base spare held m f5.type [c5] = some y5 := by simpa [o5, k5] using hff 5 f5 rfl
  obtain ⟨n0, g0, _, _⟩ := DataW.trod_int (T.ints f0 (by simp)) e0
  obtain ⟨n1, g1, _, _⟩ := DataW.trod_int (T.ints f1 (by simp)) e1
  obtain ⟨n2, g2, _, _⟩ := DataW.trod_int (T.ints f2 (by simp)) e2
  obtain ⟨n3, g3, _, _⟩ := DataW.trod_int (T.ints f3 (by simp)) e3
  obtain ⟨n4, g4, _, _⟩ := DataW.trod_int (T.ints f4 (by simp)) e4
  obtain ⟨n5, g5, _, _⟩ := DataW.trod_int (T.ints f5 (by simp)) e5
  injection g0 with g0
  injection g1 with g1
  injection g2 with g2
  injection g3 with g3
  injection g4 with g4
  injection g5 with g5
  subst g0 g1 g2 g3 g4 g5
  exact ⟨⟨n0, n1, n2, n3, n4, n5⟩, rfl⟩
set_option maxRecDepth 100000 in
theorem open_opsT {H : Type} {enc : TypeId × Value → H} {w : World} {base b0 : Nat} {spare : Nat → Bool} {held : Bool} {r : Reach} {t ts : TypeId} {f0 f1 f2 f3 f4 f5 : Field} (T : OpTy t f0 f1 f2 f3 f4 f5) (hts : Try.prog.underlying ts = some (.slice t)) {v : Value} {d : DataW H} {p : List MemPlace} (hv : Value.okWide Try.prog w r b0 ts v) (h : DataW.Trod enc Try.prog w base spare held ts v d p) :
    ∃ (ad : Option Addr) (cap : Nat) (ops : List OpT), v = .slice ad ops.length cap ∧ ops.length ≤ maxLen ∧ OpsAt ad ops w := by
  obtain ⟨a0, l0, c0, rfl⟩ := okWide_slice hts hv
  obtain ⟨fuel, hf⟩ := h
  have hf' : DataW.trod enc Try.prog w base spare held fuel ts [.slice a0 l0 c0] = some (d, p) := by simpa [Value.cells] using hf
  rcases DataW.trod_slice hts hf' with ⟨g3, _⟩ | ⟨a, len, cap, elems, rest, m', hm', g3, _, hb, hlc, hcm, hel, hat, _, _⟩
  · injection g3 with g3
    injection g3 with g1 g2 g4
    subst g1 g2 g4
    exact ⟨none, 0, [], rfl, Nat.zero_le _, fun h0 => absurd h0 (by decide)⟩
  · injection g3 with g3
    injection g3 with g1 g2 g4
    subst g1 g2 g4
    have each : ∀ i, i < l0 → ∃ z : OpT, (w.cell? ⟨a.block, a.off + i * 6, none⟩ = some (.int .i64 z.kind) ∧ w.cell? ⟨a.block, a.off + i * 6 + 1, none⟩ = some (.int .i64 z.o) ∧ w.cell? ⟨a.block, a.off + i * 6 + 2, none⟩ = some (.int .i64 z.pos) ∧ w.cell? ⟨a.block, a.off + i * 6 + 3, none⟩ = some (.int .i64 z.what) ∧ w.cell? ⟨a.block, a.off + i * 6 + 4, none⟩ = some (.int .i64 z.form) ∧ w.cell? ⟨a.block, a.off + i * 6 + 5, none⟩ = some (.int .i64 z.size)) ∧ (i = 0 → a.spot = none) ∧ a.block < w.heap.size := fun i hi => by
      have hi' := hat i hi
      rw [List.getElem?_eq_getElem (by omega)] at hi'
      cases hc : w.cells? base (a.add (i * Try.prog.cellsOf t)) (Try.prog.cellsOf t) with
      | none => rw [hc] at hi'; cases hi'
      | some ds =>
        rw [hc] at hi'
        obtain ⟨z, rfl⟩ := op_of_trod T m' ds _ hi'
        obtain ⟨_, hcell⟩ := cells_atO hc
        rw [T.cells] at hcell
        have q0 := cell_addO ((hcell 0 (by omega)).trans rfl)
        have q1 := (cell_addO ((hcell 1 (by omega)).trans rfl)).1
        have q2 := (cell_addO ((hcell 2 (by omega)).trans rfl)).1
        have q3 := (cell_addO ((hcell 3 (by omega)).trans rfl)).1
        have q4 := (cell_addO ((hcell 4 (by omega)).trans rfl)).1
        have q5 := (cell_addO ((hcell 5 (by omega)).trans rfl)).1
        exact ⟨z, ⟨q0.1, q1, q2, q3, q4, q5⟩, fun hi0 => q0.2 (by omega), World.block_lt_of_cell? w ⟨a.block, a.off + i * 6 + 0, none⟩ q0.1⟩
    obtain ⟨ks, hks, hall⟩ := list_ofO l0 each
    refine ⟨some a, c0, ks, by rw [hks], by omega, fun h0 => ?_⟩
    obtain ⟨_, hs, hblt⟩ := hall 0 h0
    have hs := hs rfl
    obtain ⟨b, off, spot⟩ := a
    simp only at hs
    subst hs
    exact ⟨b, off, rfl, hblt, fun i hi => (hall i hi).1⟩
end Go.Proofs.Ythdhaokjibfjdaa

/- gessoref17.Move. -/
namespace Go.Proofs.Ythdhaokjibfjdaa
open Go.RowKit

/-- What the document's Move answers. -/
def RMvAns (K L : List Int) (B : Nat) (e : Ending) (w : World) : Prop :=
  ∃ g c v, e = .returned (.tuple #[.agg #[sl g K.length c], v]) ∧ w.ownsRow 0 3 1 (sl g K.length c) K.length (vals K) ∧ w.ownsRow B 3 1 v L.length (vals L)
/-- The first words of one list, and those of another behind. -/
def mixL (F O : List Int) (m : Nat) : List Int := F.take m ++ O.drop m
theorem mixL_length {F O : List Int} (h : F.length = O.length) (m : Nat) : (mixL F O m).length = O.length := by
  unfold mixL; rw [List.length_append, List.length_take, List.length_drop]; omega
theorem mixL_at {F O : List Int} (h : F.length = O.length) {m j : Nat} (hj : j < O.length) : wd (mixL F O m) j = if j < m then wd F j else wd O j := by
  unfold mixL wd
  rw [List.getD_eq_getElem?_getD, List.getD_eq_getElem?_getD, List.getD_eq_getElem?_getD, List.getElem?_append, List.length_take]
  by_cases h1 : j < m
  · rw [if_pos h1, if_pos (by omega), List.getElem?_take, if_pos h1]
  · rw [if_neg h1]
    by_cases h2 : m ≤ F.length
    · rw [if_neg (by omega), List.getElem?_drop, show m + (j - min m F.length) = j by omega]
    · omega
theorem wd_extF {a b : List Int} (hl : a.length = b.length) (h : ∀ j, j < a.length → wd a j = wd b j) : a = b := by
  refine List.ext_getElem hl fun j h1 h2 => ?_
  have := h j h1
  unfold wd at this
  rw [List.getD_eq_getElem?_getD, List.getD_eq_getElem?_getD, List.getElem?_eq_getElem h1, List.getElem?_eq_getElem h2] at this
  exact this
theorem mixL_set {F O : List Int} (h : F.length = O.length) {m : Nat} (hm : m < O.length) : (mixL F O m).set m (wd F m) = mixL F O (m + 1) := by
  refine wd_extF (by rw [List.length_set, mixL_length h, mixL_length h]) fun j hj => ?_
  rw [List.length_set, mixL_length h] at hj
  rw [mixL_at h hj]
  by_cases e : m = j
  · subst e; rw [wd_set_same (by rw [mixL_length h]; exact hm), if_pos (by omega)]
  · rw [wd_set_other e, mixL_at h hj]
    by_cases h1 : j < m
    · rw [if_pos h1, if_pos (by omega)]
    · rw [if_neg h1, if_neg (by omega)]
theorem mixL_skip {F O : List Int} (h : F.length = O.length) {m : Nat} (hm : m < O.length) (he : wd F m = wd O m) : mixL F O m = mixL F O (m + 1) := by
  rw [← mixL_set h hm]
  refine wd_extF (by rw [List.length_set]) fun j hj => ?_
  by_cases e : m = j
  · subst e; rw [wd_set_same hj, mixL_at h hm, if_neg (by omega), he]
  · rw [wd_set_other e]
/-- Where Move stands as references turn: up to m they have. -/
structure MxR (w : World) (F O T : List Int) (B g n c l m : Nat) : Prop where
  own : w.ownsRow B 3 1 (sl g n c) n (vals (mixL F O m))
  came : w.ownsRow 0 3 1 (sl B l l) l (vals T)
  apart : g ≠ B
  len : F.length = O.length ∧ O.length = n
theorem MxR.put {w : World} {F O T : List Int} {B g n c l m : Nat} (h : MxR w F O T B g n c l m) (hm : m < n) : MxR (w.setCell ⟨g, m, none⟩ (.int .i64 (wd F m))) F O T B g n c l (m + 1) := by
  refine ⟨?_, ownsRow_setCell_other h.came (a := ⟨g, m, none⟩) (fun e => h.apart (by injection e with e; exact e.symm)) _, h.apart, h.len⟩
  have := (h.own.stored m (.int .i64 (wd F m))).1
  rw [show (vals (mixL F O m)).set m (.int .i64 (wd F m)) = vals (mixL F O (m + 1)) by rw [← mixL_set h.len.1 (by rw [h.len.2]; exact hm)]; simp [vals, List.map_set]] at this
  exact this
theorem MxR.skip {w : World} {F O T : List Int} {B g n c l : Nat} : ∀ (d : Nat) {m : Nat}, MxR w F O T B g n c l m → m + d ≤ n → (∀ j, j < d → wd F (m + j) = wd O (m + j)) → MxR w F O T B g n c l (m + d)
  | 0, _, h, _, _ => h
  | d + 1, m, h, hm, he => by
    have h1 : MxR w F O T B g n c l (m + 1) := ⟨by rw [← mixL_skip h.len.1 (by rw [h.len.2]; omega) (he 0 (by omega))]; exact h.own, h.came, h.apart, h.len⟩
    have := MxR.skip d h1 (by omega) (fun j hj => by have := he (j + 1) (by omega); rw [show m + 1 + j = m + (j + 1) by omega]; exact this)
    rw [show m + (d + 1) = m + 1 + d by omega]; exact this
theorem MxR.read {w : World} {F O T : List Int} {B g n c l m : Nat} (h : MxR w F O T B g n c l m) {j : Nat} (hj : j < n) : w.cell? ⟨g, j, none⟩ = some (.int .i64 (if j < m then wd F j else wd O j)) := by
  rw [own_wd h.own hj, mixL_at h.len.1 (by rw [h.len.2]; exact hj)]
theorem atF_new {W f : List Int} (hn : (f.map pl2).Nodup) {k : Nat} (hk : k < f.length) : newAt W 2 (f.map pl2) (pl2 (wd f k)) = atF W f k := by
  have hk' : k < (f.map pl2).length := by simpa using hk
  have e : f.map pl2 = (f.map pl2).take k ++ (f.map pl2)[k] :: (f.map pl2).drop (k + 1) := by rw [← List.drop_eq_getElem_cons hk', List.take_append_drop]
  have hnot : (f.map pl2)[k] ∉ (f.map pl2).take k := fun hm => by
    have hn' := hn
    rw [e, List.nodup_append] at hn'
    exact hn'.2.2 _ hm _ (List.mem_cons_self ..) rfl
  have := newAt_split (W := W) (post := (f.map pl2).drop (k + 1)) (top := 2) hnot
  rw [← e, pl_at hk] at this
  exact this
/-- What the words are about the k-th, ahead and behind. -/
theorem moved_words {W R f : List Int} (M : Moves W R (f.map pl2)) {k a p : Nat} (hk : k < f.length) (ha : a = atF W f k) (hp : p = pl2 (wd f k)) :
    (wd (movedW W (f.map pl2)) a = turnP W (f.map pl2) (wd W p)) ∧ (∀ j, j < 2 → wd (movedW W (f.map pl2)) (a + 1 + j) = wd (oldW W (f.map pl2)) (a + 1 + j)) ∧ wd (movedW W (f.map pl2)) (a + 2) = wd W (p + 2) ∧
    (∀ j, j < roomAt W p → wd (oldW W (f.map pl2)) (a + j) = wd W (p + j)) ∧ (∀ j, j < slotsAt W p → wd (movedW W (f.map pl2)) (a + 3 + j) = if formAt W p = 1 then wd W (p + 3 + j) else turnP W (f.map pl2) (wd W (p + 3 + j))) := by
  have hm : p ∈ f.map pl2 := by rw [hp]; exact List.mem_map.2 ⟨_, wd_mem hk, rfl⟩
  have e : newAt W 2 (f.map pl2) p = a := by rw [ha, hp]; exact atF_new M.once hk
  have hold : ∀ j, j < roomAt W p → wd (oldW W (f.map pl2)) (a + j) = wd W (p + j) := fun j hj => by
    have := oldW_at (W := W) (qs := f.map pl2) (fun q hq => M.room hq) (k := k) (j := j) (by simpa using hk) (by rw [pl_at hk, ← hp]; exact hj)
    rw [pl_at hk, ← hp] at this
    rw [ha]; exact this
  have h1 := M.hash hm
  have h2 := M.shape hm
  rw [e] at h1 h2
  refine ⟨by rw [← e]; exact M.cls hm, fun j hj => ?_, h2, hold, fun j hj => by rw [← e]; exact M.slot hm hj⟩
  have hr : roomAt W p = 3 + slotsAt W p := rfl
  match j, hj with
  | 0, _ => rw [Nat.add_zero, h1, hold 1 (by omega)]
  | 1, _ => rw [show a + 1 + 1 = a + 2 by omega, h2, hold 2 (by omega)]
end Go.Proofs.Ythdhaokjibfjdaa

/- Where chapter 17 moves things to. -/
namespace Go.Proofs.Ythdhaokjibfjdaa
open Go.ChangeShapes Go.WideShapes Go.ChangeAt Go.RowKit Go.Joins Go.Deep

/-- The row of those that are moved. -/
noncomputable def bfsF (W R : List Int) : List Int := Classical.choose (bfs_ex W R)
theorem bfsF_is (W R : List Int) : Bfs W R (bfsF W R) := Classical.choose_spec (bfs_ex W R)
/-- The words when all are moved, and the roots. -/
noncomputable def mvW (W R : List Int) : List Int := movedW W ((bfsF W R).map pl2)
noncomputable def mvR (W R : List Int) : List Int := R.map (turnP W ((bfsF W R).map pl2))
theorem mv_moves {W R : List Int} (h : (checkOf W).1 = 0) (hr : ∀ x ∈ R, okRef W x) : Moves W R ((bfsF W R).map pl2) := (bfsF_is W R).moves h hr
/-- What the program's Collect answers. -/
def MvAns (K L : List Int) (e : Ending) (w : World) : Prop :=
  ∃ ad c rd rc, e = .returned (.tuple #[.agg #[.slice ad K.length c], .slice rd L.length rc, .agg #[.int .i64 0, .int .i64 0]]) ∧ WordsAt ad K w ∧ RootsAt rd L w
theorem reads_words {w : World} {ad : Option Addr} {c : Nat} {K : List Int} (h : WordsAt ad K w) (h2 : 2 ≤ K.length) : Reads w (.slice ad K.length c) K := by
  obtain ⟨b, off, rfl, hr⟩ := h h2
  exact Reads.of_row hr
theorem reads_roots {w : World} {rad : Option Addr} {c : Nat} {xs : List Int} (h : RootsAt rad xs w) : Reads w (.slice rad xs.length c) xs := ⟨rad, c, rfl, fun h0 => by obtain ⟨b, off, e, r⟩ := h h0; exact ⟨b, off, e, r.lt, r.cell⟩⟩
theorem mv_two {W R : List Int} (h : (checkOf W).1 = 0) (hr : ∀ x ∈ R, okRef W x) : 2 ≤ (mvW W R).length := by unfold mvW; rw [(mv_moves h hr).length]; omega
set_option maxRecDepth 20000 in
theorem open_heapC {H : Type} {enc : TypeId × Value → H} {w : World} {base b0 : Nat} {spare : Nat → Bool} {held : Bool} {r : Reach} {v : Value} {d : DataW H} {p : List MemPlace} (hv : Value.okWide Try.prog w r b0 24 v) (h : DataW.Trod enc Try.prog w base spare held 24 v d p) :
    ∃ (ad : Option Addr) (cap : Nat) (W : List Int), v = .agg #[.slice ad W.length cap] ∧ W.length ≤ maxLen ∧ WordsAt ad W w ∧ W.length ≤ cap := by
  obtain ⟨v0, y0, n, rfl, hy⟩ := open_agg1 Try.underlying24 (by kernel_rfl) (by kernel_rfl) hv h
  obtain ⟨a, l, c, hs⟩ := slice_form lt30 hy
  simp at hs
  subst hs
  have hcp : l ≤ c := by
    rcases open_ints lt30 lt3 (by kernel_rfl) hy with ⟨hcs, _⟩ | ⟨y, l', c', zs, hcs, _, hl, _⟩
    · simp at hcs; omega
    · simp at hcs; omega
  obtain ⟨hm, W, rfl, hr⟩ := open_nums hy
  exact ⟨a, c, W, rfl, hm, fun h => hr (by omega), hcp⟩
end Go.Proofs.Ythdhaokjibfjdaa

/- What chapter 17's laws share: the document's answer. -/
namespace Go.Proofs.Ythdhaokjibfjdaa
open Go.ChangeShapes Go.WideShapes Go.ChangeAt Go.RowKit Go.Joins Go.Deep

end Go.Proofs.Ythdhaokjibfjdaa

/- What chapter 18's laws share. -/
namespace Go.Proofs.Ythdhaokjibfjdaa
open Go.ChangeShapes Go.WideShapes Go.ChangeAt Go.RowKit Go.Joins Go.Deep

/-- What the program's Play answers. -/
def TpAns (s : Tri) (e : Ending) (w : World) : Prop := ∃ v0 v1 v2 v4, e = .returned (.tuple #[.agg #[v0, v1, v2, .bool (doneT s), v4], .agg #[.int .i64 0, .int .i64 0]]) ∧ PlayAns' w s v0 v1 v2 v4
theorem PlayAns'.below {w w' : World} {s : Tri} {v0 v1 v2 v4 : Value} (h : PlayAns' w s v0 v1 v2 v4) (hb : Below w.heap.size w w') : PlayAns' w' s v0 v1 v2 v4 := ⟨h.words.below hb, h.roots.below hb, h.cols.below hb, h.freed.below hb⟩
theorem PlayAns'.forms {w : World} {s : Tri} {v0 v1 v2 v4 : Value} (h : PlayAns' w s v0 v1 v2 v4) : ∃ a0 c0 a1 c1 a2 c2 a4 c4, v0 = .slice a0 s.W.length c0 ∧ v1 = .slice a1 s.R.length c1 ∧ v2 = .slice a2 (coloursT s).length c2 ∧ v4 = .slice a4 (freedT s).length c4 := by
  obtain ⟨a0, c0, e0, _⟩ := h.words
  obtain ⟨a1, c1, e1, _⟩ := h.roots
  obtain ⟨a2, c2, e2, _⟩ := h.cols
  obtain ⟨a4, c4, e4, _⟩ := h.freed
  exact ⟨a0, c0, a1, c1, a2, c2, a4, c4, e0, e1, e2, e4⟩
theorem box5c {w w' : World} {a b c d e : Value} {t : TypeId} (hb : Below (w.alloc (.cells #[a, b, c, d, e] t)).heap.size (w.alloc (.cells #[a, b, c, d, e] t)) w') :
    (w'.cell? ⟨w.heap.size, 0, none⟩ = some a ∧ w'.cell? ⟨w.heap.size, 1, none⟩ = some b ∧ w'.cell? ⟨w.heap.size, 2, none⟩ = some c ∧ w'.cell? ⟨w.heap.size, 3, none⟩ = some d ∧ w'.cell? ⟨w.heap.size, 4, none⟩ = some e) ∧ w.heap.size < w'.heap.size := by
  have hs := hb.size
  simp at hs
  refine ⟨⟨?_, ?_, ?_, ?_, ?_⟩, by omega⟩
  · rw [hb.cell (p := ⟨w.heap.size, 0, none⟩) (by simp)]; simp
  · rw [hb.cell (p := ⟨w.heap.size, 1, none⟩) (by simp)]; simp
  · rw [hb.cell (p := ⟨w.heap.size, 2, none⟩) (by simp)]; simp
  · rw [hb.cell (p := ⟨w.heap.size, 3, none⟩) (by simp)]; simp
  · rw [hb.cell (p := ⟨w.heap.size, 4, none⟩) (by simp)]; simp
theorem boxes52 {w w' : World} {a b c d e x y : Value} {t t' : TypeId} (hb : Below ((w.alloc (.cells #[a, b, c, d, e] t)).alloc (.cells #[x, y] t')).heap.size ((w.alloc (.cells #[a, b, c, d, e] t)).alloc (.cells #[x, y] t')) w') :
    (w'.cell? ⟨w.heap.size, 0, none⟩ = some a ∧ w'.cell? ⟨w.heap.size, 1, none⟩ = some b ∧ w'.cell? ⟨w.heap.size, 2, none⟩ = some c ∧ w'.cell? ⟨w.heap.size, 3, none⟩ = some d ∧ w'.cell? ⟨w.heap.size, 4, none⟩ = some e) ∧ w'.cell? ⟨w.heap.size + 1, 0, none⟩ = some x ∧ w'.cell? ⟨w.heap.size + 1, 1, none⟩ = some y ∧ w.heap.size + 1 < w'.heap.size := by
  have hs := hb.size
  simp at hs
  have h1 : Below (w.alloc (.cells #[a, b, c, d, e] t)).heap.size (w.alloc (.cells #[a, b, c, d, e] t)) w' := ((Below.refl _ _).alloc (Nat.le_refl _) _).trans (hb.mono (by simp))
  have hz : (w.alloc (.cells #[a, b, c, d, e] t)).heap.size = w.heap.size + 1 := by simp
  have g0 : w'.cell? ⟨(w.alloc (.cells #[a, b, c, d, e] t)).heap.size, 0, none⟩ = some x := by rw [hb.cell (p := ⟨(w.alloc (.cells #[a, b, c, d, e] t)).heap.size, 0, none⟩) (by simp)]; simp
  have g1 : w'.cell? ⟨(w.alloc (.cells #[a, b, c, d, e] t)).heap.size, 1, none⟩ = some y := by rw [hb.cell (p := ⟨(w.alloc (.cells #[a, b, c, d, e] t)).heap.size, 1, none⟩) (by simp)]; simp
  rw [hz] at g0 g1
  exact ⟨(box5c h1).1, g0, g1, by omega⟩
theorem fold_roots : ∀ (ops : List OpT) (s : Tri), (ops.foldl doT s).R.length ≤ s.R.length + ops.length
  | [], _ => Nat.le_refl _
  | p :: r, s => by
    have h1 := fold_roots r (doT s p)
    have h2 := do_roots s p
    rw [List.foldl_cons, List.length_cons]
    omega
theorem play_roots (W R : List Int) (ops : List OpT) : (playT W R ops).R.length ≤ R.length + ops.length := fold_roots ops _
theorem sizesT {W : List Int} (hc : (checkOf W).1 = 0) : (places W 2).length ≤ 2000 := by
  have hf := fine_of hc
  have h2 : 2 ≤ W.length := (front_out (check_fine hc).1).1
  have h1 := places_sum (W := W) _ 2 (Nat.le_refl _) h2 hf.fit
  have h3 : ∀ l : List Nat, l.length ≤ roomSum W l := fun l => by
    induction l with
    | nil => exact Nat.zero_le _
    | cons a r ih => rw [roomSum, roomAt, List.length_cons]; omega
  have := h3 (places W 2)
  have := hf.few
  omega
/-- How long what is answered can be. -/
theorem play_sizes {W R : List Int} (ops : List OpT) (hc : (checkOf W).1 = 0) (hr : ∀ x ∈ R, okRef W x) (hR : R.length ≤ 5000) (ho : ops.length ≤ 800) : (playT W R ops).W.length ≤ 2000 ∧ (playT W R ops).R.length ≤ 5800 ∧ (coloursT (playT W R ops)).length ≤ 2000 ∧ (freedT (playT W R ops)).length ≤ 2000 := by
  have hi := play_inv ops hc hr
  have h3 := sizesT hi.may
  refine ⟨(fine_of hi.may).few, by have := play_roots W R ops; omega, by unfold coloursT; rw [List.length_map]; exact h3, ?_⟩
  unfold freedT
  split
  · rw [List.length_map]; exact Nat.le_trans (List.length_filter_le ..) h3
  · exact Nat.zero_le _
end Go.Proofs.Ythdhaokjibfjdaa
