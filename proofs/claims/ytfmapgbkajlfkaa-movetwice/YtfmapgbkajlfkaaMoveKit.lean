/- Package move: the mover in memory. -/
import Derived.Test.YtfmapgbkajlfkaaMvPlain
import Derived.Test.YtfmapgbkajlfkaaTurnPlain
import Derived.Test.YtfmapgbkajlfkaaLeads
import Derived.Test.YtfmapgbkajlfkaaIntMap
namespace Go.Proofs.Ytfmapgbkajlfkaa
open Go.RowKit
open Go.Maps (Keyed keyOf_int_mk)

/-- Things, each once. -/
def Fit (W f : List Int) : Prop := f.Nodup ∧ ∀ x ∈ f, thingB W x = true
theorem thing_two {W : List Int} {x : Int} (h : thingB W x = true) : x = 2 * (pl2 x : Int) ∧ pl2 x ∈ places W 2 := by
  obtain ⟨p, e, hm, _, hp⟩ := thing_ref h
  have hp' : pl2 x = p := hp
  rw [hp']; exact ⟨e, hm⟩
theorem Fit.once {W f : List Int} (h : Fit W f) : (f.map pl2).Nodup := by
  unfold List.Nodup; rw [List.pairwise_map]
  refine List.Pairwise.imp_of_mem (fun {a b} ha hb hne => ?_) h.1
  intro e; rw [(thing_two (h.2 a ha)).1, (thing_two (h.2 b hb)).1, e] at hne; exact hne rfl
theorem Fit.place {W f : List Int} (h : Fit W f) : ∀ p ∈ f.map pl2, p ∈ places W 2 := fun p hp => by
  obtain ⟨x, hx, rfl⟩ := List.mem_map.1 hp
  exact (thing_two (h.2 x hx)).2
theorem Fit.refs {W f : List Int} (h : Fit W f) : refs (f.map pl2) = f := by
  unfold Go.Proofs.Ytfmapgbkajlfkaa.refs
  rw [List.map_map]
  conv => rhs; rw [← List.map_id f]
  exact List.map_congr_left fun x hx => (thing_two (h.2 x hx)).1.symm
theorem Fit.add {W f : List Int} {o : Int} (h : Fit W f) (hn : o ∉ f) (ho : thingB W o = true) : Fit W (f ++ [o]) := by
  refine ⟨?_, fun x hx => ?_⟩
  · rw [List.nodup_append]
    exact ⟨h.1, by simp, fun a ha b hb e => by rw [List.mem_singleton] at hb; subst hb; subst e; exact hn ha⟩
  · rcases List.mem_append.1 hx with hx | hx
    · exact h.2 x hx
    · rw [List.mem_singleton] at hx; subst hx; exact ho
theorem Fit.not {W f : List Int} {o : Int} (h : Fit W f) (hn : o ∉ f) (ho : thingB W o = true) : pl2 o ∉ f.map pl2 := fun hm => by
  obtain ⟨x, hx, e⟩ := List.mem_map.1 hm
  have : x = o := by rw [(thing_two (h.2 x hx)).1, (thing_two ho).1, e]
  subst this; exact hn hx
theorem Fit.has {W f : List Int} (h : Fit W f) (o : Int) : (refAt W 2 (f.map pl2) o).isSome = f.contains o := by
  by_cases hm : o ∈ f
  · have e := (thing_two (h.2 o hm)).1
    have := refAt_in (W := W) (top := 2) (p := pl2 o) (List.mem_map_of_mem (f := pl2) hm)
    rw [← e] at this
    rw [this, List.contains_iff_mem.2 hm]; rfl
  · rw [refAt_out fun p hp e => hm ?_, show f.contains o = false from Bool.eq_false_iff.2 fun h => hm (List.contains_iff_mem.1 h)]; rfl
    obtain ⟨x, hx, rfl⟩ := List.mem_map.1 hp
    rw [e, ← (thing_two (h.2 x hx)).1]; exact hx

theorem IntMap.block {w w' : World} {bm top : Nat} {f : Int → Option Int} (h : IntMap w bm top f) (e : w'.heap[bm]? = w.heap[bm]?) : IntMap w' bm top f := by
  obtain ⟨n, D, ⟨es, clock, hb0, r⟩, q⟩ := h
  exact ⟨n, D, ⟨es, clock, by rw [e]; exact hb0, r⟩, q⟩

/-- The mover in block Q: its view, who has moved where (the map in block mm), the row, the end. From block L on it is the mover's own; its row lies from block N on. -/
structure MoverP (W : List Int) (b cap bm mm Q L N top : Nat) (F : Int → Option Int) (f : List Int) (vf : Value) (S : Nat) (w : World) : Prop where
  view : IsView w b cap bm W
  lb : b < L
  lbm : bm < L
  lm : L ≤ mm
  lq : L ≤ Q
  ne : mm ≠ Q
  nm : mm < N
  nq : Q < N
  size : N ≤ w.heap.size
  q0 : w.cell? ⟨Q, 0, none⟩ = some (sl b W.length cap)
  q1 : w.cell? ⟨Q, 1, none⟩ = some (.map (some bm))
  q2 : w.cell? ⟨Q, 2, none⟩ = some (.map (some mm))
  q3 : w.cell? ⟨Q, 3, none⟩ = some vf
  q4 : w.cell? ⟨Q, 4, none⟩ = some (.int .i64 (S : Int))
  z3 : w.frozen? ⟨Q, 3, none⟩ = false
  z4 : w.frozen? ⟨Q, 4, none⟩ = false
  map : IntMap w mm top F
  own : w.ownsRow N 3 1 vf f.length (vals f)

theorem view_low {w w' : World} {b cap bm L : Nat} {W : List Int} (h : IsView w b cap bm W) (hB : Below L w w') (hb : b < L) (hbm : bm < L) : IsView w' b cap bm W :=
  ⟨ownsRow_below h.own hB hb, h.wf, h.begun.below hB hbm⟩

namespace MoverP
variable {W : List Int} {b cap bm mm Q L N top top' : Nat} {F F' : Int → Option Int} {f : List Int} {vf v' : Value} {S S' : Nat} {w w' : World} {o : Int}
theorem below (h : MoverP W b cap bm mm Q L N top F f vf S w) (hb : Below w.heap.size w w') : MoverP W b cap bm mm Q L N top F f vf S w' := by
  have hs := h.size
  have hq := h.nq
  have hm := h.nm
  exact ⟨h.view.same hb, h.lb, h.lbm, h.lm, h.lq, h.ne, h.nm, h.nq, by have := hb.size; omega, through hb h.q0 (by dsimp only; omega), through hb h.q1 (by dsimp only; omega), through hb h.q2 (by dsimp only; omega), through hb h.q3 (by dsimp only; omega), through hb h.q4 (by dsimp only; omega), throughF hb h.z3 (by dsimp only; omega), throughF hb h.z4 (by dsimp only; omega), h.map.below hb (by omega), own_same h.own fun g hg => hb.block g (h.own.lt g hg).2⟩
/-- A thing more in the map. -/
theorem mapped (h : MoverP W b cap bm mm Q L N top F f vf S w) (hm : IntMap w' mm top' F') (hg : w.grownBy w' (some mm)) : MoverP W b cap bm mm Q L N top' F' f vf S w' ∧ Below L w w' := by
  have hs := h.size
  have hq := h.nq
  have hlm := h.lm
  have hlq := h.lq
  have hnm := h.nm
  have hne := h.ne
  have hsz := hg.size
  have hB : Below L w w' := (Below.refl L w).grown hg (by omega) (fun k hk => by injection hk; omega)
  have e : w'.heap[Q]? = w.heap[Q]? := hg.block Q (by omega) (fun e => by injection e with e; exact hne e.symm)
  have c : ∀ j v, w.cell? ⟨Q, j, none⟩ = some v → w'.cell? ⟨Q, j, none⟩ = some v := fun j v hv => (World.cell?_of_block (a := ⟨Q, j, none⟩) e).trans hv
  have z : ∀ j v, w.frozen? ⟨Q, j, none⟩ = v → w'.frozen? ⟨Q, j, none⟩ = v := fun j v hv => (World.frozen?_of_block (a := ⟨Q, j, none⟩) e).trans hv
  exact ⟨⟨view_low h.view hB h.lb h.lbm, h.lb, h.lbm, h.lm, h.lq, h.ne, h.nm, h.nq, by omega, c _ _ h.q0, c _ _ h.q1, c _ _ h.q2, c _ _ h.q3, c _ _ h.q4, z _ _ h.z3, z _ _ h.z4, hm, own_same h.own fun g hg' => hg.block g (h.own.lt g hg').2 (fun e => by injection e with e; have := (h.own.lt g hg').1; omega)⟩, hB⟩
/-- A thing more in the row. -/
theorem rowed (h : MoverP W b cap bm mm Q L N top F f vf S w) (hown : w'.ownsRow N 3 1 v' (f.length + 1) (vals f ++ [.int .i64 o])) (hg : w.grownBy w' vf.ownBlock) :
    MoverP W b cap bm mm Q L N top F (f ++ [o]) v' S (w'.setCell ⟨Q, 3, none⟩ v') ∧ Below L w (w'.setCell ⟨Q, 3, none⟩ v') := by
  have hs := h.size
  have hq := h.nq
  have hlm := h.lm
  have hlq := h.lq
  have hnm := h.nm
  have hne := h.ne
  have hsz := hg.size
  have hrow : ∀ k, vf.ownBlock = some k → N ≤ k := fun k hk => (h.own.lt k hk).1
  have hB : Below L w (w'.setCell ⟨Q, 3, none⟩ v') := ((Below.refl L w).grown hg (by omega) (fun k hk => by have := hrow k hk; omega)).setCell (p := ⟨Q, 3, none⟩) (by dsimp only; omega) v'
  have hsc : (w'.setCell ⟨Q, 3, none⟩ v').heap.size = w'.heap.size := by simp [World.setCell]
  have e : w'.heap[Q]? = w.heap[Q]? := hg.block Q (by omega) (fun e => by have := hrow Q e.symm; omega)
  have c0 : ∀ j v, w.cell? ⟨Q, j, none⟩ = some v → w'.cell? ⟨Q, j, none⟩ = some v := fun j v hv => (World.cell?_of_block (a := ⟨Q, j, none⟩) e).trans hv
  have c : ∀ j v, j ≠ 3 → w.cell? ⟨Q, j, none⟩ = some v → (w'.setCell ⟨Q, 3, none⟩ v').cell? ⟨Q, j, none⟩ = some v := fun j v hj hv => by
    rw [World.cell?_setCell_other _ _ _ _ (fun e => hj (by injection e with _ e; exact e.symm))]; exact c0 j v hv
  have z : ∀ j, w.frozen? ⟨Q, j, none⟩ = false → (w'.setCell ⟨Q, 3, none⟩ v').frozen? ⟨Q, j, none⟩ = false := fun j hv => by
    rw [World.frozen?_setCell]; exact (World.frozen?_of_block (a := ⟨Q, j, none⟩) e).trans hv
  have em : (w'.setCell ⟨Q, 3, none⟩ v').heap[mm]? = w.heap[mm]? := (Below.heap_setCell _ _ _ _ (by dsimp only; omega)).trans (hg.block mm (by omega) (fun e => by have := hrow mm e.symm; omega))
  refine ⟨⟨view_low h.view hB h.lb h.lbm, h.lb, h.lbm, h.lm, h.lq, h.ne, h.nm, h.nq, by omega, c _ _ (by decide) h.q0, c _ _ (by decide) h.q1, c _ _ (by decide) h.q2, World.cell?_setCell_same' _ _ _ (by rw [c0 _ _ h.q3]; rfl), c _ _ (by decide) h.q4, z _ h.z3, z _ h.z4, h.map.block em, ?_⟩, hB⟩
  have : w'.ownsRow N 3 1 v' (f ++ [o]).length (vals (f ++ [o])) := by simpa [vals] using hown
  exact own_same this fun g hg' => Below.heap_setCell _ _ _ _ (by have := (this.lt g hg').1; dsimp only; omega)
/-- The end further on. -/
theorem ended (h : MoverP W b cap bm mm Q L N top F f vf S w) (S' : Nat) : MoverP W b cap bm mm Q L N top F f vf S' (w.setCell ⟨Q, 4, none⟩ (.int .i64 (S' : Int))) ∧ Below L w (w.setCell ⟨Q, 4, none⟩ (.int .i64 (S' : Int))) := by
  have hs := h.size
  have hq := h.nq
  have hlm := h.lm
  have hlq := h.lq
  have hnm := h.nm
  have hne := h.ne
  have hB : Below L w (w.setCell ⟨Q, 4, none⟩ (.int .i64 (S' : Int))) := (Below.refl L w).setCell (p := ⟨Q, 4, none⟩) (by dsimp only; omega) _
  have hsc : (w.setCell ⟨Q, 4, none⟩ (.int .i64 (S' : Int))).heap.size = w.heap.size := by simp [World.setCell]
  have c : ∀ j v, j ≠ 4 → w.cell? ⟨Q, j, none⟩ = some v → (w.setCell ⟨Q, 4, none⟩ (.int .i64 (S' : Int))).cell? ⟨Q, j, none⟩ = some v := fun j v hj hv => by
    rw [World.cell?_setCell_other _ _ _ _ (fun e => hj (by injection e with _ e; exact e.symm))]; exact hv
  refine ⟨⟨view_low h.view hB h.lb h.lbm, h.lb, h.lbm, h.lm, h.lq, h.ne, h.nm, h.nq, by omega, c _ _ (by decide) h.q0, c _ _ (by decide) h.q1, c _ _ (by decide) h.q2, c _ _ (by decide) h.q3, World.cell?_setCell_same' _ _ _ (by rw [h.q4]; rfl), by rw [World.frozen?_setCell]; exact h.z3, by rw [World.frozen?_setCell]; exact h.z4, h.map.block (Below.heap_setCell _ _ _ _ (by dsimp only; omega)), ?_⟩, hB⟩
  exact own_same h.own fun g hg' => Below.heap_setCell _ _ _ _ (by have := (h.own.lt g hg').1; dsimp only; omega)
end MoverP

/-- The mover when those of f have moved. -/
def Mover (W : List Int) (b cap bm mm Q L N : Nat) (f : List Int) (vf : Value) (w : World) : Prop :=
  MoverP W b cap bm mm Q L N f.length (refAt W 2 (f.map pl2)) f vf (2 + roomSum W (f.map pl2)) w
/-- What move does. -/
def MoveAns (W : List Int) (b cap bm mm Q L N : Nat) (f : List Int) (w : World) (e : Ending) (w' : World) : Prop :=
  e = .returned (.tuple #[]) ∧ (∃ vf, Mover W b cap bm mm Q L N f vf w') ∧ Fit W f ∧ Below L w w'
end Go.Proofs.Ytfmapgbkajlfkaa
