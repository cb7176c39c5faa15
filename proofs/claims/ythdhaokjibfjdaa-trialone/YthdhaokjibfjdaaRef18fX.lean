/- gessoref17: Play. -/
import Derived.Test.YthdhaokjibfjdaaRef18eX
import Derived.Test.YthdhaokjibfjdaaRefThingsX
import Derived.Deep.AppendSrc
namespace Go.Proofs.Ythdhaokjibfjdaa
open Go.RowKit

theorem own_empty (w : World) (B : Nat) (h : B ≤ w.heap.size) : (w.alloc (.cells #[] 3)).ownsRow B 3 1 (sl w.heap.size 0 0) 0 [] := by
  have := World.ownsRow_lit (base := B) (e := 3) (size := 1) w #[] 0 h (Nat.zero_le _) rfl
  simpa using this
set_option maxRecDepth 20000 in
theorem run_copy {w : World} {ty : TypeId} {B X : Nat} {rad : Option Addr} {R : List Int} {rcap : Nat} (hX : w.ownsRow B 3 1 (sl X 0 0) 0 []) (hR : RootsAt rad R w) (hl : R.length ≤ 900000) (hB : B ≤ w.heap.size) :
    ∃ g c w', (Builtin.append_ #[22, 22] ty #[sl X 0 0, .slice rad R.length rcap]).run Try.prog w = .ok (sl g R.length c) w' ∧ w'.ownsRow B 3 1 (sl g R.length c) R.length (vals R) ∧ w.grownBy w' (some X) ∧ (g = X ∨ g = w.heap.size) := by
  obtain ⟨i, hi, hz0, hz1, hz2⟩ := info_parts info3
  cases rad with
  | none =>
    have h0 : R.length = 0 := by
      refine Nat.eq_zero_of_not_pos fun hp => ?_
      obtain ⟨_, _, e, _⟩ := hR hp
      cases e
    have e0 : R = [] := List.eq_nil_of_length_eq_zero h0
    subst e0
    have hs : Src Try.prog i.size 22 (.slice none 0 rcap) 0 [] w := Src.ofNil w ty30 rcap
    have := run_append_room_src (P := Try.prog) w 22 22 ty 3 i ty30 hi X 0 0 0 (.slice none 0 rcap) 0 [] hs (Nat.le_refl _) (fun j hj => by cases hj) (fun j hj => by cases hj)
    exact ⟨X, 0, w, by simpa [World.setCells] using this, hX, World.grownBy.refl _ _, Or.inl rfl⟩
  | some ad =>
    have hn : ∀ j u, (vals R)[j]? = some u → w.cell? (ad.add j) = some u := by
      intro j u hj
      have hlt : j < R.length := by have := (List.getElem?_eq_some_iff.1 hj).1; simpa using this
      obtain ⟨rb, ro, e, hr⟩ := hR (by omega)
      injection e with e
      rw [e]; exact row_news hr j u hj
    obtain ⟨v', w', hr, r1, r2, r3, r4⟩ := run_append_own_at (P := Try.prog) w B 22 ty 3 i (.int .i64 0) 1 8 ty30 hi hz0 hz1 hz2 rfl (by decide) (sl X 0 0) 0 [] hX ad R.length rcap (vals R) (by simp) hn (ints_oneCell _ _) (by unfold maxLen; omega) (by omega) hB
    simp only [Nat.zero_add, List.nil_append] at r1
    obtain ⟨g, c, rfl, _, _⟩ := own_shape r1 (fun e => by have := (r3.1 e).1; cases this)
    refine ⟨g, c, w', hr, r1, r2, ?_⟩
    rcases r4 with e | e
    · left; injection e
    · right; injection e
theorem step_copy {ops : Array Oper} {o : Oper} {a : Act} {w : World} {K : Act → World → Prop} {Q : Exit → Act → World → Prop} {E : Prop}
    (hg : o.guard = none) (s x : Operand) (hop : o.op = Op.call { callee := Callee.builtin Builtin.append, args := #[s, x], argTypes := #[22, 22] })
    {B X : Nat} {rad : Option Addr} {R : List Int} {rcap : Nat} (hs : a.eval s = sl X 0 0) (hx : a.eval x = .slice rad R.length rcap) (hX : w.ownsRow B 3 1 (sl X 0 0) 0 []) (hR : RootsAt rad R w) (hl : R.length ≤ 900000) (hB : B ≤ w.heap.size)
    (hK : ∀ g c w', w'.ownsRow B 3 1 (sl g R.length c) R.length (vals R) → w.grownBy w' (some X) → (g = X ∨ g = w.heap.size) → K (a.put o.dst (sl g R.length c)) w') :
    if Region.wanted o (yielded ops a.tmps) = true then Oper.wp Try.prog o a w K Q else E := by
  have hw : Region.wanted o (yielded ops a.tmps) = true := by simp [Region.wanted, hg]
  rw [if_pos hw]
  obtain ⟨g, c, w', hr, r1, r2, r3⟩ := run_copy (ty := o.type) (rcap := rcap) hX hR hl hB
  unfold Oper.wp
  simp [execOp, hop, resolve, invoke, builtin, hs, hx, hr, Result.andThen]
  exact hK g c w' r1 r2 r3
/-- Ops, where they lie. -/
def OpsAt (oad : Option Addr) (ops : List OpT) (w : World) : Prop := 0 < ops.length → ∃ ob oo, oad = some ⟨ob, oo, none⟩ ∧ ob < w.heap.size ∧ ∀ i (h : i < ops.length), w.cell? ⟨ob, oo + i * 6, none⟩ = some (.int .i64 ops[i].kind) ∧ w.cell? ⟨ob, oo + i * 6 + 1, none⟩ = some (.int .i64 ops[i].o) ∧ w.cell? ⟨ob, oo + i * 6 + 2, none⟩ = some (.int .i64 ops[i].pos) ∧ w.cell? ⟨ob, oo + i * 6 + 3, none⟩ = some (.int .i64 ops[i].what) ∧ w.cell? ⟨ob, oo + i * 6 + 4, none⟩ = some (.int .i64 ops[i].form) ∧ w.cell? ⟨ob, oo + i * 6 + 5, none⟩ = some (.int .i64 ops[i].size)
theorem OpsAt.below {oad : Option Addr} {ops : List OpT} {w w' : World} (h : OpsAt oad ops w) (hb : Below w.heap.size w w') : OpsAt oad ops w' := fun h0 => by
  obtain ⟨ob, oo, e, hl, hc⟩ := h h0
  refine ⟨ob, oo, e, Nat.lt_of_lt_of_le hl hb.size, fun i hi => ?_⟩
  obtain ⟨c0, c1, c2, c3, c4, c5⟩ := hc i hi
  exact ⟨(hb.cell (p := ⟨ob, oo + i * 6, none⟩) hl).trans c0, (hb.cell (p := ⟨ob, oo + i * 6 + 1, none⟩) hl).trans c1, (hb.cell (p := ⟨ob, oo + i * 6 + 2, none⟩) hl).trans c2, (hb.cell (p := ⟨ob, oo + i * 6 + 3, none⟩) hl).trans c3, (hb.cell (p := ⟨ob, oo + i * 6 + 4, none⟩) hl).trans c4, (hb.cell (p := ⟨ob, oo + i * 6 + 5, none⟩) hl).trans c5⟩
theorem do_roots (s : Tri) (p : OpT) : (doT s p).R.length ≤ s.R.length + 1 := by
  unfold doT
  split
  · exact Nat.le_succ _
  · split
    · split
      · exact Nat.le_succ _
      · exact Nat.le_succ _
    · split
      · split
        · show (s.R ++ [_]).length ≤ _; simp
        · exact Nat.le_succ _
      · split
        · split
          · show (s.R.set _ _).length ≤ _; simp
          · exact Nat.le_succ _
        · exact Nat.le_succ _
/-- What Play builds, where it lies: behind wt. -/
structure PlR (w wt : World) (v0 v1 : Value) (CL FL : List Int) (d : Bool) (vC vF : Value) : Prop where
  box : w.heap[wt.heap.size]? = some (.cells #[v0, v1, vC, .bool d, vF] 30 (0, 0))
  cs : w.ownsRow (wt.heap.size + 1) 3 1 vC CL.length (vals CL)
  fs : w.ownsRow (wt.heap.size + 1) 3 1 vF FL.length (vals FL)
  ne : ∀ g, vC.ownBlock = some g → vF.ownBlock ≠ some g
  low : Below wt.heap.size wt w
theorem PlR.lt {w wt : World} {v0 v1 vC vF : Value} {CL FL : List Int} {d : Bool} (h : PlR w wt v0 v1 CL FL d vC vF) : wt.heap.size < w.heap.size := (Array.getElem?_eq_some_iff.1 h.box).1
theorem PlR.cells {w wt : World} {v0 v1 vC vF : Value} {CL FL : List Int} {d : Bool} (h : PlR w wt v0 v1 CL FL d vC vF) : (w.cell? ⟨wt.heap.size, 0, none⟩ = some v0 ∧ w.cell? ⟨wt.heap.size, 1, none⟩ = some v1 ∧ w.cell? ⟨wt.heap.size, 2, none⟩ = some vC ∧ w.cell? ⟨wt.heap.size, 3, none⟩ = some (.bool d) ∧ w.cell? ⟨wt.heap.size, 4, none⟩ = some vF) ∧ ∀ k, w.frozen? ⟨wt.heap.size, k, none⟩ = false :=
  ⟨⟨cell_of_row _ _ _ _ _ _ h.box, cell_of_row _ _ _ _ _ _ h.box, cell_of_row _ _ _ _ _ _ h.box, cell_of_row _ _ _ _ _ _ h.box, cell_of_row _ _ _ _ _ _ h.box⟩, fun _ => frozen_of_row _ _ _ _ _ h.box⟩
theorem PlR.off {w wt : World} {v0 v1 vC vF : Value} {CL FL : List Int} {d : Bool} (h : PlR w wt v0 v1 CL FL d vC vF) : vC.ownBlock ≠ some wt.heap.size ∧ vF.ownBlock ≠ some wt.heap.size := ⟨fun e => by have := (h.cs.lt _ e).1; omega, fun e => by have := (h.fs.lt _ e).1; omega⟩
theorem PlR.drewN {w wt : World} {v0 v1 vC vF : Value} {CL FL : List Int} {d : Bool} (h : PlR w wt v0 v1 CL FL d vC vF) (n : Nat) : PlR (w.drewN n) wt v0 v1 CL FL d vC vF := by
  have hb := below_drewN (Below.refl w.heap.size w) n
  exact ⟨(hb.block _ h.lt).trans h.box, own_same h.cs fun g e => hb.block g (h.cs.lt g e).2, own_same h.fs fun g e => hb.block g (h.fs.lt g e).2, h.ne, below_drewN h.low n⟩
theorem PlR.drew {w wt : World} {v0 v1 vC vF : Value} {CL FL : List Int} {d : Bool} (h : PlR w wt v0 v1 CL FL d vC vF) : PlR w.drew wt v0 v1 CL FL d vC vF := ⟨h.box, h.cs.drew, h.fs.drew, h.ne, h.low.drew⟩
theorem PlR.setD {w wt : World} {v0 v1 vC vF : Value} {CL FL : List Int} {d : Bool} (h : PlR w wt v0 v1 CL FL d vC vF) (d' : Bool) : PlR (w.setCell ⟨wt.heap.size, 3, none⟩ (.bool d')) wt v0 v1 CL FL d' vC vF :=
  ⟨heap_setCell_same _ _ _ _ _ _ h.box, ownsRow_setCell_other h.cs (a := ⟨wt.heap.size, 3, none⟩) h.off.1 _, ownsRow_setCell_other h.fs (a := ⟨wt.heap.size, 3, none⟩) h.off.2 _, h.ne, h.low.setCell (p := ⟨wt.heap.size, 3, none⟩) (Nat.le_refl _) _⟩
theorem PlR.growC {w w2 wt : World} {o : Obj} {v0 v1 vC vF : Value} {CL FL : List Int} {d : Bool} {x : Int} {g c : Nat} (h : PlR w wt v0 v1 CL FL d vC vF) (hown : w2.ownsRow (wt.heap.size + 1) 3 1 (sl g (CL.length + 1) c) (CL.length + 1) (vals (CL ++ [x]))) (hgrow : (w.alloc o).grownBy w2 vC.ownBlock) (hat : vC.ownBlock = some g ∨ g = w.heap.size + 1) :
    PlR (w2.setCell ⟨wt.heap.size, 2, none⟩ (sl g (CL.length + 1) c)) wt v0 v1 (CL ++ [x]) FL d (sl g (CL.length + 1) c) vF := by
  have hk : ∀ k, k < w.heap.size → vC.ownBlock ≠ some k → w2.heap[k]? = w.heap[k]? := fun k hk hn => (hgrow.block k (by simp; omega) (fun e => hn e.symm)).trans (Below.heap_alloc _ _ _ hk)
  have hl : (CL ++ [x]).length = CL.length + 1 := by simp
  have hgX := (hown.lt g rfl).1
  have hX := h.lt
  refine ⟨heap_setCell_same _ _ _ _ _ _ ((hk _ h.lt h.off.1).trans h.box), ?_, ?_, fun k e hf => ?_, ?_⟩
  · rw [hl]; exact ownsRow_setCell_other hown (a := ⟨wt.heap.size, 2, none⟩) (fun e => by have e' : g = wt.heap.size := (by injection e); omega) _
  · exact ownsRow_setCell_other (own_same h.fs fun k e => hk k (h.fs.lt k e).2 (fun e' => h.ne k e' e)) (a := ⟨wt.heap.size, 2, none⟩) h.off.2 _
  · have e' : g = k := by injection e
    subst e'
    rcases hat with a | a
    · exact h.ne g a hf
    · have := (h.fs.lt g hf).2; omega
  · exact ((h.low.alloc (by omega) o).grown hgrow (by simp; omega) (fun k e => by have := (h.cs.lt k e).1; omega)).setCell (p := ⟨wt.heap.size, 2, none⟩) (Nat.le_refl _) _
theorem PlR.growF {w w2 wt : World} {o : Obj} {v0 v1 vC vF : Value} {CL FL : List Int} {d : Bool} {x : Int} {g c : Nat} (h : PlR w wt v0 v1 CL FL d vC vF) (hown : w2.ownsRow (wt.heap.size + 1) 3 1 (sl g (FL.length + 1) c) (FL.length + 1) (vals (FL ++ [x]))) (hgrow : (w.alloc o).grownBy w2 vF.ownBlock) (hat : vF.ownBlock = some g ∨ g = w.heap.size + 1) :
    PlR (w2.setCell ⟨wt.heap.size, 4, none⟩ (sl g (FL.length + 1) c)) wt v0 v1 CL (FL ++ [x]) d vC (sl g (FL.length + 1) c) := by
  have hk : ∀ k, k < w.heap.size → vF.ownBlock ≠ some k → w2.heap[k]? = w.heap[k]? := fun k hk hn => (hgrow.block k (by simp; omega) (fun e => hn e.symm)).trans (Below.heap_alloc _ _ _ hk)
  have hl : (FL ++ [x]).length = FL.length + 1 := by simp
  have hgX := (hown.lt g rfl).1
  have hX := h.lt
  refine ⟨heap_setCell_same _ _ _ _ _ _ ((hk _ h.lt h.off.2).trans h.box), ?_, ?_, fun k e hf => ?_, ?_⟩
  · exact ownsRow_setCell_other (own_same h.cs fun k e => hk k (h.cs.lt k e).2 (h.ne k e)) (a := ⟨wt.heap.size, 4, none⟩) h.off.1 _
  · rw [hl]; exact ownsRow_setCell_other hown (a := ⟨wt.heap.size, 4, none⟩) (fun e => by have e' : g = wt.heap.size := (by injection e); omega) _
  · have e' : g = k := by injection hf
    subst e'
    rcases hat with a | a
    · exact h.ne g e a
    · have := (h.cs.lt g e).2; omega
  · exact ((h.low.alloc (by omega) o).grown hgrow (by simp; omega) (fun k e => by have := (h.fs.lt k e).1; omega)).setCell (p := ⟨wt.heap.size, 4, none⟩) (Nat.le_refl _) _
/-- An append of one number as one step of a region that draws. -/
theorem step_append_at {ops : Array Oper} {o : Oper} {a : Act} {w : World} {K : Act → World → Prop} {Q : Exit → Act → World → Prop} {E : Prop}
    (hg : o.guard = none) (s x : Operand) (hop : o.op = Op.call { callee := Callee.builtin Builtin.append, args := #[s, x], argTypes := #[22, 22] })
    {B n c : Nat} {v : Value} {xs : List Value} {y : Int} {ad : Addr} (hs : a.eval s = v) (hx : a.eval x = .slice (some ad) 1 c) (hown : w.ownsRow B 3 1 v n xs) (hc : ∀ j u, [Value.int .i64 y][j]? = some u → w.cell? (ad.add j) = some u) (hl : n ≤ 900000) (hB : B ≤ w.heap.size)
    (hK : ∀ g cap w', w'.ownsRow B 3 1 (sl g (n + 1) cap) (n + 1) (xs ++ [.int .i64 y]) → w.grownBy w' v.ownBlock → (v.ownBlock = some g ∨ g = w.heap.size) → K (a.put o.dst (sl g (n + 1) cap)) w') :
    if Region.wanted o (yielded ops a.tmps) = true then Oper.wp Try.prog o a w K Q else E := by
  have hw : Region.wanted o (yielded ops a.tmps) = true := by simp [Region.wanted, hg]
  rw [if_pos hw]
  obtain ⟨i, hi, hz0, hz1, hz2⟩ := info_parts info3
  obtain ⟨v', w', hr, r1, r2, r3, r4⟩ := run_append_own_at (P := Try.prog) w B 22 o.type 3 i (.int .i64 0) 1 8 ty30 hi hz0 hz1 hz2 rfl (by decide) v n xs hown ad 1 c [.int .i64 y] rfl hc (ints_oneCell .i64 [y]) (by unfold maxLen; omega) (by omega) hB
  obtain ⟨g, cap, rfl, _, _⟩ := own_shape r1 (fun e => by have := (r3.1 e).2; omega)
  unfold Oper.wp
  simp [execOp, hop, resolve, invoke, builtin, hs, hx, hr, Result.andThen]
  refine hK g cap w' r1 r2 ?_
  rcases r4 with e | e
  · left; exact e.symm
  · right; injection e
/-- What Play answers, read. -/
structure PlayAns' (w : World) (s : Tri) (v0 v1 v2 v4 : Value) : Prop where
  words : Reads w v0 s.W
  roots : Reads w v1 s.R
  cols : Reads w v2 (coloursT s)
  freed : Reads w v4 (freedT s)
theorem set5 {w : World} {K k : Nat} {a b c d e : Value} (hk : k ≠ K) : (((((w.setCell ⟨K, 0, none⟩ a).setCell ⟨K, 1, none⟩ b).setCell ⟨K, 2, none⟩ c).setCell ⟨K, 3, none⟩ d).setCell ⟨K, 4, none⟩ e).heap[k]? = w.heap[k]? := by
  rw [Below.heap_setCell _ _ _ _ hk, Below.heap_setCell _ _ _ _ hk, Below.heap_setCell _ _ _ _ hk, Below.heap_setCell _ _ _ _ hk, Below.heap_setCell _ _ _ _ hk]
theorem sizes_le {W : List Int} {pre : List Nat} {p : Nat} (h : AtPlace W [] pre p) (hf : Fine W) : pre.length ≤ 2000 := by
  have h1 := h.sum hf.fit
  have h2 := h.top
  have h3 : ∀ l : List Nat, l.length ≤ roomSum W l := fun l => by
    induction l with
    | nil => exact Nat.zero_le _
    | cons a r ih => rw [roomSum, roomAt, List.length_cons]; omega
  have := h3 pre
  have := hf.few
  omega
end Go.Proofs.Ythdhaokjibfjdaa
