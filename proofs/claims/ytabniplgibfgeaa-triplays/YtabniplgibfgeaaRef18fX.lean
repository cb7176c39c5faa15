/- gessoref17: Play. -/
import Derived.Test.YtabniplgibfgeaaRef18eX
import Derived.Test.YtabniplgibfgeaaRefThings
import Derived.Deep.AppendSrc
namespace Go.Proofs.Ytabniplgibfgeaa
open Go.RowKit

theorem own_empty (w : World) (B : Nat) (h : B ≤ w.heap.size) : (w.alloc (.cells #[] 3)).ownsRow B 3 1 (sl w.heap.size 0 0) 0 [] := by
  have := World.ownsRow_lit (base := B) (e := 3) (size := 1) w #[] 0 h (Nat.zero_le _) rfl
  simpa using this
set_option maxRecDepth 20000 in
theorem run_copy {w : World} {ty : TypeId} {B X : Nat} {rad : Option Addr} {R : List Int} {rcap : Nat} (hX : w.ownsRow B 3 1 (sl X 0 0) 0 []) (hR : RootsAt rad R w) (hl : R.length ≤ 900000) (hB : B ≤ w.heap.size) :
    ∃ g c w', (Builtin.append_ #[22, 22] ty #[sl X 0 0, .slice rad R.length rcap]).run Try.prog w = .ok (sl g R.length c) w' ∧ w'.ownsRow B 3 1 (sl g R.length c) R.length (vals R) ∧ w.grownBy w' (some X) ∧ (g = X ∨ g = w.heap.size) := by
  obtain ⟨i, hi, hz0, hz1, hz2⟩ := info_parts info3
  cases rad with
  | none =>
    have h0 : R.length = 0 := by
      refine Nat.eq_zero_of_not_pos fun hp => ?_
      obtain ⟨_, _, e, _⟩ := hR hp
      cases e
    have e0 : R = [] := List.eq_nil_of_length_eq_zero h0
    subst e0
    have hs : Src Try.prog i.size 22 (.slice none 0 rcap) 0 [] w := Src.ofNil w ty30 rcap
    have := run_append_room_src (P := Try.prog) w 22 22 ty 3 i ty30 hi X 0 0 0 (.slice none 0 rcap) 0 [] hs (Nat.le_refl _) (fun j hj => by cases hj) (fun j hj => by cases hj)
    exact ⟨X, 0, w, by simpa [World.setCells] using this, hX, World.grownBy.refl _ _, Or.inl rfl⟩
  | some ad =>
    have hn : ∀ j u, (vals R)[j]? = some u → w.cell? (ad.add j) = some u := by
      intro j u hj
      have hlt : j < R.length := by have := (List.getElem?_eq_some_iff.1 hj).1; simpa using this
      obtain ⟨rb, ro, e, hr⟩ := hR (by omega)
      injection e with e
      rw [e]; exact row_news hr j u hj
    obtain ⟨v', w', hr, r1, r2, r3, r4⟩ := run_append_own_at (P := Try.prog) w B 22 ty 3 i (.int .i64 0) 1 8 ty30 hi hz0 hz1 hz2 rfl (by decide) (sl X 0 0) 0 [] hX ad R.length rcap (vals R) (by simp) hn (ints_oneCell _ _) (by unfold maxLen; omega) (by omega) hB
    simp only [Nat.zero_add, List.nil_append] at r1
    obtain ⟨g, c, rfl, _, _⟩ := own_shape r1 (fun e => by have := (r3.1 e).1; cases this)
    refine ⟨g, c, w', hr, r1, r2, ?_⟩
    rcases r4 with e | e
    · left; injection e
    · right; injection e
theorem step_copy {ops : Array Oper} {o : Oper} {a : Act} {w : World} {K : Act → World → Prop} {Q : Exit → Act → World → Prop} {E : Prop}
    (hg : o.guard = none) (s x : Operand) (hop : o.op = Op.call { callee := Callee.builtin Builtin.append, args := #[s, x], argTypes := #[22, 22] })
    {B X : Nat} {rad : Option Addr} {R : List Int} {rcap : Nat} (hs : a.eval s = sl X 0 0) (hx : a.eval x = .slice rad R.length rcap) (hX : w.ownsRow B 3 1 (sl X 0 0) 0 []) (hR : RootsAt rad R w) (hl : R.length ≤ 900000) (hB : B ≤ w.heap.size)
    (hK : ∀ g c w', w'.ownsRow B 3 1 (sl g R.length c) R.length (vals R) → w.grownBy w' (some X) → (g = X ∨ g = w.heap.size) → K (a.put o.dst (sl g R.length c)) w') :
    if Region.wanted o (yielded ops a.tmps) = true then Oper.wp Try.prog o a w K Q else E := by
  have hw : Region.wanted o (yielded ops a.tmps) = true := by simp [Region.wanted, hg]
  rw [if_pos hw]
  obtain ⟨g, c, w', hr, r1, r2, r3⟩ := run_copy (ty := o.type) (rcap := rcap) hX hR hl hB
  unfold Oper.wp
  simp [execOp, hop, resolve, invoke, builtin, hs, hx, hr, Result.andThen]
  exact hK g c w' r1 r2 r3
theorem ts_mk {w : World} {B b off cap g c M : Nat} {W R : List Int} (hrow : Row w b off W) (hg : w.ownsRow B 3 1 (sl g R.length c) R.length (vals R)) (hM : w.ownsRow B 3 1 (sl M (W.length + 1) (W.length + 1)) (W.length + 1) (vals (List.replicate (W.length + 1) 0))) (hne : g ≠ M) (hb : b < B) (hcap : W.length ≤ cap) (hB : B ≤ w.heap.size) :
    TsA (w.alloc (.cells #[.slice (some ⟨b, off, none⟩) W.length cap, sl g R.length c, sl M (W.length + 1) (W.length + 1)] 58)) B w.heap.size b off cap g c M (W.length + 1) ⟨W, R, List.replicate (W.length + 1) 0⟩ := by
  have l1 := own_lt hg
  have l2 := own_lt hM
  have l3 := (hg.lt g rfl).1
  have l4 := (hM.lt M rfl).1
  have hl : (List.replicate (W.length + 1) (0 : Int)).length = W.length + 1 := List.length_replicate
  refine ⟨?_, hrow.alloc _, hg.alloc _, ?_, ⟨by omega, by omega, hne, by have := hrow.lt; omega, by omega, by omega⟩, hB, hcap⟩
  · rw [show (⟨W, R, List.replicate (W.length + 1) 0⟩ : Tri).C.length = W.length + 1 from hl]; exact heap_alloc_new w _
  · rw [show (⟨W, R, List.replicate (W.length + 1) 0⟩ : Tri).C.length = W.length + 1 from hl]; exact hM.alloc _
/-- Ops, where they lie. -/
def OpsAt (oad : Option Addr) (ops : List OpT) (w : World) : Prop := 0 < ops.length → ∃ ob oo, oad = some ⟨ob, oo, none⟩ ∧ ob < w.heap.size ∧ ∀ i (h : i < ops.length), w.cell? ⟨ob, oo + i * 6, none⟩ = some (.int .i64 ops[i].kind) ∧ w.cell? ⟨ob, oo + i * 6 + 1, none⟩ = some (.int .i64 ops[i].o) ∧ w.cell? ⟨ob, oo + i * 6 + 2, none⟩ = some (.int .i64 ops[i].pos) ∧ w.cell? ⟨ob, oo + i * 6 + 3, none⟩ = some (.int .i64 ops[i].what) ∧ w.cell? ⟨ob, oo + i * 6 + 4, none⟩ = some (.int .i64 ops[i].form) ∧ w.cell? ⟨ob, oo + i * 6 + 5, none⟩ = some (.int .i64 ops[i].size)
theorem OpsAt.below {oad : Option Addr} {ops : List OpT} {w w' : World} (h : OpsAt oad ops w) (hb : Below w.heap.size w w') : OpsAt oad ops w' := fun h0 => by
  obtain ⟨ob, oo, e, hl, hc⟩ := h h0
  refine ⟨ob, oo, e, Nat.lt_of_lt_of_le hl hb.size, fun i hi => ?_⟩
  obtain ⟨c0, c1, c2, c3, c4, c5⟩ := hc i hi
  exact ⟨(hb.cell (p := ⟨ob, oo + i * 6, none⟩) hl).trans c0, (hb.cell (p := ⟨ob, oo + i * 6 + 1, none⟩) hl).trans c1, (hb.cell (p := ⟨ob, oo + i * 6 + 2, none⟩) hl).trans c2, (hb.cell (p := ⟨ob, oo + i * 6 + 3, none⟩) hl).trans c3, (hb.cell (p := ⟨ob, oo + i * 6 + 4, none⟩) hl).trans c4, (hb.cell (p := ⟨ob, oo + i * 6 + 5, none⟩) hl).trans c5⟩
theorem do_roots (s : Tri) (p : OpT) : (doT s p).R.length ≤ s.R.length + 1 := by
  unfold doT
  split
  · exact Nat.le_succ _
  · split
    · split
      · exact Nat.le_succ _
      · exact Nat.le_succ _
    · split
      · split
        · show (s.R ++ [_]).length ≤ _; simp
        · exact Nat.le_succ _
      · split
        · split
          · show (s.R.set _ _).length ≤ _; simp
          · exact Nat.le_succ _
        · exact Nat.le_succ _
/-- What Play builds, where it lies: behind wt. -/
structure PlR (w wt : World) (v0 v1 : Value) (CL FL : List Int) (d : Bool) (vC vF : Value) : Prop where
  box : w.heap[wt.heap.size]? = some (.cells #[v0, v1, vC, .bool d, vF] 28 (0, 0))
  cs : w.ownsRow (wt.heap.size + 1) 3 1 vC CL.length (vals CL)
  fs : w.ownsRow (wt.heap.size + 1) 3 1 vF FL.length (vals FL)
  ne : ∀ g, vC.ownBlock = some g → vF.ownBlock ≠ some g
  low : Below wt.heap.size wt w
theorem PlR.lt {w wt : World} {v0 v1 vC vF : Value} {CL FL : List Int} {d : Bool} (h : PlR w wt v0 v1 CL FL d vC vF) : wt.heap.size < w.heap.size := (Array.getElem?_eq_some_iff.1 h.box).1
theorem PlR.cells {w wt : World} {v0 v1 vC vF : Value} {CL FL : List Int} {d : Bool} (h : PlR w wt v0 v1 CL FL d vC vF) : (w.cell? ⟨wt.heap.size, 0, none⟩ = some v0 ∧ w.cell? ⟨wt.heap.size, 1, none⟩ = some v1 ∧ w.cell? ⟨wt.heap.size, 2, none⟩ = some vC ∧ w.cell? ⟨wt.heap.size, 3, none⟩ = some (.bool d) ∧ w.cell? ⟨wt.heap.size, 4, none⟩ = some vF) ∧ ∀ k, w.frozen? ⟨wt.heap.size, k, none⟩ = false :=
  ⟨⟨cell_of_row _ _ _ _ _ _ h.box, cell_of_row _ _ _ _ _ _ h.box, cell_of_row _ _ _ _ _ _ h.box, cell_of_row _ _ _ _ _ _ h.box, cell_of_row _ _ _ _ _ _ h.box⟩, fun _ => frozen_of_row _ _ _ _ _ h.box⟩
theorem PlR.off {w wt : World} {v0 v1 vC vF : Value} {CL FL : List Int} {d : Bool} (h : PlR w wt v0 v1 CL FL d vC vF) : vC.ownBlock ≠ some wt.heap.size ∧ vF.ownBlock ≠ some wt.heap.size := ⟨fun e => by have := (h.cs.lt _ e).1; omega, fun e => by have := (h.fs.lt _ e).1; omega⟩
theorem PlR.drewN {w wt : World} {v0 v1 vC vF : Value} {CL FL : List Int} {d : Bool} (h : PlR w wt v0 v1 CL FL d vC vF) (n : Nat) : PlR (w.drewN n) wt v0 v1 CL FL d vC vF := by
  have hb := below_drewN (Below.refl w.heap.size w) n
  exact ⟨(hb.block _ h.lt).trans h.box, own_same h.cs fun g e => hb.block g (h.cs.lt g e).2, own_same h.fs fun g e => hb.block g (h.fs.lt g e).2, h.ne, below_drewN h.low n⟩
theorem PlR.drew {w wt : World} {v0 v1 vC vF : Value} {CL FL : List Int} {d : Bool} (h : PlR w wt v0 v1 CL FL d vC vF) : PlR w.drew wt v0 v1 CL FL d vC vF := ⟨h.box, h.cs.drew, h.fs.drew, h.ne, h.low.drew⟩
theorem PlR.setD {w wt : World} {v0 v1 vC vF : Value} {CL FL : List Int} {d : Bool} (h : PlR w wt v0 v1 CL FL d vC vF) (d' : Bool) : PlR (w.setCell ⟨wt.heap.size, 3, none⟩ (.bool d')) wt v0 v1 CL FL d' vC vF :=
  ⟨heap_setCell_same _ _ _ _ _ _ h.box, ownsRow_setCell_other h.cs (a := ⟨wt.heap.size, 3, none⟩) h.off.1 _, ownsRow_setCell_other h.fs (a := ⟨wt.heap.size, 3, none⟩) h.off.2 _, h.ne, h.low.setCell (p := ⟨wt.heap.size, 3, none⟩) (Nat.le_refl _) _⟩
theorem PlR.growC {w w2 wt : World} {o : Obj} {v0 v1 vC vF : Value} {CL FL : List Int} {d : Bool} {x : Int} {g c : Nat} (h : PlR w wt v0 v1 CL FL d vC vF) (hown : w2.ownsRow (wt.heap.size + 1) 3 1 (sl g (CL.length + 1) c) (CL.length + 1) (vals (CL ++ [x]))) (hgrow : (w.alloc o).grownBy w2 vC.ownBlock) (hat : vC.ownBlock = some g ∨ g = w.heap.size + 1) :
    PlR (w2.setCell ⟨wt.heap.size, 2, none⟩ (sl g (CL.length + 1) c)) wt v0 v1 (CL ++ [x]) FL d (sl g (CL.length + 1) c) vF := by
  have hk : ∀ k, k < w.heap.size → vC.ownBlock ≠ some k → w2.heap[k]? = w.heap[k]? := fun k hk hn => (hgrow.block k (by simp; omega) (fun e => hn e.symm)).trans (Below.heap_alloc _ _ _ hk)
  have hl : (CL ++ [x]).length = CL.length + 1 := by simp
  have hgX := (hown.lt g rfl).1
  have hX := h.lt
  refine ⟨heap_setCell_same _ _ _ _ _ _ ((hk _ h.lt h.off.1).trans h.box), ?_, ?_, fun k e hf => ?_, ?_⟩
  · rw [hl]; exact ownsRow_setCell_other hown (a := ⟨wt.heap.size, 2, none⟩) (fun e => by have e' : g = wt.heap.size := (by injection e); omega) _
  · exact ownsRow_setCell_other (own_same h.fs fun k e => hk k (h.fs.lt k e).2 (fun e' => h.ne k e' e)) (a := ⟨wt.heap.size, 2, none⟩) h.off.2 _
  · have e' : g = k := by injection e
    subst e'
    rcases hat with a | a
    · exact h.ne g a hf
    · have := (h.fs.lt g hf).2; omega
  · exact ((h.low.alloc (by omega) o).grown hgrow (by simp; omega) (fun k e => by have := (h.cs.lt k e).1; omega)).setCell (p := ⟨wt.heap.size, 2, none⟩) (Nat.le_refl _) _
theorem PlR.growF {w w2 wt : World} {o : Obj} {v0 v1 vC vF : Value} {CL FL : List Int} {d : Bool} {x : Int} {g c : Nat} (h : PlR w wt v0 v1 CL FL d vC vF) (hown : w2.ownsRow (wt.heap.size + 1) 3 1 (sl g (FL.length + 1) c) (FL.length + 1) (vals (FL ++ [x]))) (hgrow : (w.alloc o).grownBy w2 vF.ownBlock) (hat : vF.ownBlock = some g ∨ g = w.heap.size + 1) :
    PlR (w2.setCell ⟨wt.heap.size, 4, none⟩ (sl g (FL.length + 1) c)) wt v0 v1 CL (FL ++ [x]) d vC (sl g (FL.length + 1) c) := by
  have hk : ∀ k, k < w.heap.size → vF.ownBlock ≠ some k → w2.heap[k]? = w.heap[k]? := fun k hk hn => (hgrow.block k (by simp; omega) (fun e => hn e.symm)).trans (Below.heap_alloc _ _ _ hk)
  have hl : (FL ++ [x]).length = FL.length + 1 := by simp
  have hgX := (hown.lt g rfl).1
  have hX := h.lt
  refine ⟨heap_setCell_same _ _ _ _ _ _ ((hk _ h.lt h.off.2).trans h.box), ?_, ?_, fun k e hf => ?_, ?_⟩
  · exact ownsRow_setCell_other (own_same h.cs fun k e => hk k (h.cs.lt k e).2 (h.ne k e)) (a := ⟨wt.heap.size, 4, none⟩) h.off.1 _
  · rw [hl]; exact ownsRow_setCell_other hown (a := ⟨wt.heap.size, 4, none⟩) (fun e => by have e' : g = wt.heap.size := (by injection e); omega) _
  · have e' : g = k := by injection hf
    subst e'
    rcases hat with a | a
    · exact h.ne g e a
    · have := (h.cs.lt g e).2; omega
  · exact ((h.low.alloc (by omega) o).grown hgrow (by simp; omega) (fun k e => by have := (h.fs.lt k e).1; omega)).setCell (p := ⟨wt.heap.size, 4, none⟩) (Nat.le_refl _) _
/-- An append of one number as one step of a region that draws. -/
theorem step_append_at {ops : Array Oper} {o : Oper} {a : Act} {w : World} {K : Act → World → Prop} {Q : Exit → Act → World → Prop} {E : Prop}
    (hg : o.guard = none) (s x : Operand) (hop : o.op = Op.call { callee := Callee.builtin Builtin.append, args := #[s, x], argTypes := #[22, 22] })
    {B n c : Nat} {v : Value} {xs : List Value} {y : Int} {ad : Addr} (hs : a.eval s = v) (hx : a.eval x = .slice (some ad) 1 c) (hown : w.ownsRow B 3 1 v n xs) (hc : ∀ j u, [Value.int .i64 y][j]? = some u → w.cell? (ad.add j) = some u) (hl : n ≤ 900000) (hB : B ≤ w.heap.size)
    (hK : ∀ g cap w', w'.ownsRow B 3 1 (sl g (n + 1) cap) (n + 1) (xs ++ [.int .i64 y]) → w.grownBy w' v.ownBlock → (v.ownBlock = some g ∨ g = w.heap.size) → K (a.put o.dst (sl g (n + 1) cap)) w') :
    if Region.wanted o (yielded ops a.tmps) = true then Oper.wp Try.prog o a w K Q else E := by
  have hw : Region.wanted o (yielded ops a.tmps) = true := by simp [Region.wanted, hg]
  rw [if_pos hw]
  obtain ⟨i, hi, hz0, hz1, hz2⟩ := info_parts info3
  obtain ⟨v', w', hr, r1, r2, r3, r4⟩ := run_append_own_at (P := Try.prog) w B 22 o.type 3 i (.int .i64 0) 1 8 ty30 hi hz0 hz1 hz2 rfl (by decide) v n xs hown ad 1 c [.int .i64 y] rfl hc (ints_oneCell .i64 [y]) (by unfold maxLen; omega) (by omega) hB
  obtain ⟨g, cap, rfl, _, _⟩ := own_shape r1 (fun e => by have := (r3.1 e).2; omega)
  unfold Oper.wp
  simp [execOp, hop, resolve, invoke, builtin, hs, hx, hr, Result.andThen]
  refine hK g cap w' r1 r2 ?_
  rcases r4 with e | e
  · left; exact e.symm
  · right; injection e
/-- What Play answers, read. -/
structure PlayAns' (w : World) (s : Tri) (v0 v1 v2 v4 : Value) : Prop where
  words : Reads w v0 s.W
  roots : Reads w v1 s.R
  cols : Reads w v2 (coloursT s)
  freed : Reads w v4 (freedT s)
theorem set5 {w : World} {K k : Nat} {a b c d e : Value} (hk : k ≠ K) : (((((w.setCell ⟨K, 0, none⟩ a).setCell ⟨K, 1, none⟩ b).setCell ⟨K, 2, none⟩ c).setCell ⟨K, 3, none⟩ d).setCell ⟨K, 4, none⟩ e).heap[k]? = w.heap[k]? := by
  rw [Below.heap_setCell _ _ _ _ hk, Below.heap_setCell _ _ _ _ hk, Below.heap_setCell _ _ _ _ hk, Below.heap_setCell _ _ _ _ hk, Below.heap_setCell _ _ _ _ hk]
theorem sizes_le {W : List Int} {pre : List Nat} {p : Nat} (h : AtPlace W [] pre p) (hf : Fine W) : pre.length ≤ 2000 := by
  have h1 := h.sum hf.fit
  have h2 := h.top
  have h3 : ∀ l : List Nat, l.length ≤ roomSum W l := fun l => by
    induction l with
    | nil => exact Nat.zero_le _
    | cons a r ih => rw [roomSum, roomAt, List.length_cons]; omega
  have := h3 pre
  have := hf.few
  omega
set_option maxRecDepth 100000 in
set_option maxHeartbeats 8000000 in
theorem rplay_any (W roots : List Int) (ops : List OpT) (b off cap : Nat) (rad oad : Option Addr) (rcap ocap : Nat) (w : World) (hr : Row w b off W) (hroots : RootsAt rad roots w) (hrl : roots.length ≤ 5000) (hc : (checkOf W).1 = 0) (hok : ∀ x ∈ roots, okRef W x) (hcap : W.length ≤ cap) (hol : ops.length ≤ 800) (hops : OpsAt oad ops w) :
    Calls Try.prog 10 #[heapV (some ⟨b, off, none⟩) W.length cap, .slice rad roots.length rcap, .slice oad ops.length ocap] w fun e w' => (∃ v0 v1 v2 v4, e = .returned (.agg #[v0, v1, v2, .bool (doneT (playT W roots ops)), v4]) ∧ PlayAns' w' (playT W roots ops) v0 v1 v2 v4) ∧ Below w.heap.size w w' := by
  have hf := fine_of hc
  have hfew := hf.few
  obtain ⟨i0, hi, hz0, hz1, hz2⟩ := info_parts info3
  obtain ⟨wA, ewA⟩ : ∃ wA, wA = (w.alloc (.cells #[.slice (some ⟨b, off, none⟩) W.length cap] 24)).alloc (.cells #[.slice none 0 0, .slice none 0 0, .slice none 0 0, .bool false, .slice none 0 0] 28) := ⟨_, rfl⟩
  have hbA : Below w.heap.size w wA := by rw [ewA]; exact ((Below.refl _ _).alloc (Nat.le_refl _) _).alloc (by simp) _
  have hsA : wA.heap.size = w.heap.size + 2 := by rw [ewA]; simp
  have hrA := hr.same hbA
  have HRO : Hid (RootsAt rad roots wA) := hroots.below hbA
  have kA : wA.cell? ⟨w.heap.size, 0, none⟩ = some (.slice (some ⟨b, off, none⟩) W.length cap) := by rw [ewA, cell_past _ (by simp), cell_at2 rfl]; rfl
  have hblt : b < wA.heap.size := hrA.lt
  have HRB : Hid (wA.heap[w.heap.size + 1]? = some (.cells #[.slice none 0 0, .slice none 0 0, .slice none 0 0, .bool false, .slice none 0 0] 28 (0, 0))) := by rw [ewA]; have := heap_alloc_new (w.alloc (.cells #[.slice (some ⟨b, off, none⟩) W.length cap] 24)) (.cells #[.slice none 0 0, .slice none 0 0, .slice none 0 0, .bool false, .slice none 0 0] 28 (0, 0)); simpa [Hid] using this
  have hzA : w.heap.size < wA.heap.size := by omega
  have HSA : Hid (wA.heap.size = w.heap.size + 2) := hsA
  clear hsA
  have hw1 := wrap_id (x := (W.length : Int) + 1) (by omega) (by omega)
  have hmk : ∀ w : World, (Instr.makeSlice 22 (.int .i64 ((W.length : Int) + 1)) (.int .i64 ((W.length : Int) + 1))).run Try.prog w = .ok (.slice (some ⟨w.heap.size, 0, none⟩) (W.length + 1) (W.length + 1)) (w.alloc (.cells (madeCells #[.int .i64 0] (W.length + 1)) 3)) := fun w => by
    have := run_make (P := Try.prog) w 22 3 i0 (.int .i64 0) ty30 hi hz0 .i64 .i64 (W.length + 1) (W.length + 1) (by omega) (Int.le_refl _) (by rw [hz2]; omega) (by omega)
    simpa [hz1, Value.cells] using this
  go_enter Try.func10, Try.ntmps10
  go_upto_region 1 with fail
  rw [← ewA]
  clear ewA
  go_cut [7] from 14 to 24 (fun s7 wx => ∃ Sg, s7 = .pointer (some ⟨Sg, 0, none⟩) ∧ Hid (TsR wx wA.heap.size Sg ⟨W, roots, List.replicate (W.length + 1) 0⟩) ∧ Hid (Below wA.heap.size wA wx))
  case first =>
    have hmade : ∀ (w' : World) (B : Nat), B ≤ w'.heap.size → (w'.alloc (.cells (madeCells #[.int .i64 0] (W.length + 1)) 3)).ownsRow B 3 1 (sl w'.heap.size (W.length + 1) (W.length + 1)) (W.length + 1) (vals (List.replicate (W.length + 1) 0)) := fun w' B hB => by
      have := World.ownsRow_lit (base := B) (e := 3) (size := 1) w' (madeCells #[.int .i64 0] (W.length + 1)) (W.length + 1) hB (by unfold maxLen; omega) (by simpa using size_madeCells #[.int .i64 0] (W.length + 1))
      simpa [toList_madeCells_one, vals] using this
    have B1 : Below wA.heap.size wA (wA.alloc (.cells #[] 3)).drew := ((Below.refl _ wA).alloc (Nat.le_refl _) _).drew
    have E1 : ((wA.alloc (.cells #[] 3)).drew).ownsRow wA.heap.size 3 1 (sl wA.heap.size 0 0) 0 [] := (own_empty wA _ (Nat.le_refl _)).drew
    have R1 : RootsAt rad roots (wA.alloc (.cells #[] 3)).drew := HRO.out.below B1
    have B2 : Below wA.heap.size wA ((wA.alloc (.cells (madeCells #[.int .i64 0] (W.length + 1)) 3)).alloc (.cells #[] 3)).drew := (((Below.refl _ wA).alloc (Nat.le_refl _) _).alloc (by simp) _).drew
    have E2 : (((wA.alloc (.cells (madeCells #[.int .i64 0] (W.length + 1)) 3)).alloc (.cells #[] 3)).drew).ownsRow wA.heap.size 3 1 (sl (wA.heap.size + 1) 0 0) 0 [] := (by have := (own_empty (wA.alloc (.cells (madeCells #[.int .i64 0] (W.length + 1)) 3)) wA.heap.size (by simp)).drew; simpa using this)
    have R2 : RootsAt rad roots ((wA.alloc (.cells (madeCells #[.int .i64 0] (W.length + 1)) 3)).alloc (.cells #[] 3)).drew := HRO.out.below B2
    have B3 : Below wA.heap.size wA ((wA.alloc (.cells #[] 3)).alloc (.cells (madeCells #[.int .i64 0] (W.length + 1)) 3)).drew := (((Below.refl _ wA).alloc (Nat.le_refl _) _).alloc (by simp) _).drew
    have E3 : (((wA.alloc (.cells #[] 3)).alloc (.cells (madeCells #[.int .i64 0] (W.length + 1)) 3)).drew).ownsRow wA.heap.size 3 1 (sl wA.heap.size 0 0) 0 [] := ((own_empty wA _ (Nat.le_refl _)).alloc _).drew
    have R3 : RootsAt rad roots ((wA.alloc (.cells #[] 3)).alloc (.cells (madeCells #[.int .i64 0] (W.length + 1)) 3)).drew := HRO.out.below B3
    go_region_law (first | (refine step_copy (rcap := rcap) rfl (.tmp 15) (.tmp 16) rfl rfl rfl E1 R1 (by omega) B1.size ?_; intro g c w3 hown3 hgrow3 hat3; have hb3 : Below wA.heap.size wA w3 := B1.grown hgrow3 B1.size (fun k e => by injection e with e; omega); have kA3 : w3.cell? ⟨w.heap.size, 0, none⟩ = some (.slice (some ⟨b, off, none⟩) W.length cap) := (hb3.cell (p := ⟨w.heap.size, 0, none⟩) hzA).trans kA; have hz3 := hb3.size; have hz31 : w.heap.size < w3.heap.size := (by omega)) | (refine step_copy (rcap := rcap) rfl (.tmp 15) (.tmp 16) rfl rfl rfl E2 R2 (by omega) B2.size ?_; intro g c w3 hown3 hgrow3 hat3; have hb3 : Below wA.heap.size wA w3 := B2.grown hgrow3 B2.size (fun k e => by injection e with e; omega); have kA3 : w3.cell? ⟨w.heap.size, 0, none⟩ = some (.slice (some ⟨b, off, none⟩) W.length cap) := (hb3.cell (p := ⟨w.heap.size, 0, none⟩) hzA).trans kA; have hz3 := hb3.size; have hz31 : w.heap.size < w3.heap.size := (by omega)) | (refine step_copy (rcap := rcap) rfl (.tmp 15) (.tmp 16) rfl rfl rfl E3 R3 (by omega) B3.size ?_; intro g c w3 hown3 hgrow3 hat3; have hb3 : Below wA.heap.size wA w3 := B3.grown hgrow3 B3.size (fun k e => by injection e with e; omega); have kA3 : w3.cell? ⟨w.heap.size, 0, none⟩ = some (.slice (some ⟨b, off, none⟩) W.length cap) := (hb3.cell (p := ⟨w.heap.size, 0, none⟩) hzA).trans kA; have hz3 := hb3.size; have hz31 : w.heap.size < w3.heap.size := (by omega)))
    all_goals
      go_wp2_with fail
      go_meet
      first
        | exact ⟨w3.heap.size + 1, by first | rfl | simp, ⟨b, off, cap, g, c, w3.heap.size, W.length + 1, by
            have := ts_mk (w := w3.alloc (.cells (madeCells #[.int .i64 0] (W.length + 1)) 3)) (cap := cap) ((hrA.same hb3).alloc _) (hown3.alloc _) (hmade w3 _ hz3) (by have := own_lt hown3; omega) hblt hcap (by simp; omega)
            simpa using this⟩, (hb3.alloc hz3 _).alloc (by simp; omega) _⟩
        | exact ⟨w3.heap.size, by first | rfl | simp, ⟨b, off, cap, g, c, wA.heap.size + 1, W.length + 1, by
            have hm : w3.ownsRow wA.heap.size 3 1 (sl (wA.heap.size + 1) (W.length + 1) (W.length + 1)) (W.length + 1) (vals (List.replicate (W.length + 1) 0)) := own_same (by have := (hmade (wA.alloc (.cells #[] 3)) wA.heap.size (by simp)).drew; simpa using this) fun k e => by
              have e' : wA.heap.size + 1 = k := by injection e
              subst e'
              exact hgrow3.block _ (by simp) (fun e => by injection e with e; omega)
            exact ts_mk (cap := cap) (hrA.same hb3) hown3 hm (by rcases hat3 with e | e <;> first | omega | (simp at e; omega)) hblt hcap hz3⟩, hb3.alloc hz3 _⟩
        | exact ⟨w3.heap.size, by first | rfl | simp, ⟨b, off, cap, g, c, wA.heap.size, W.length + 1, by
            have hm : w3.ownsRow wA.heap.size 3 1 (sl wA.heap.size (W.length + 1) (W.length + 1)) (W.length + 1) (vals (List.replicate (W.length + 1) 0)) := own_same (((hmade wA wA.heap.size (Nat.le_refl _)).alloc _).drew) fun k e => by
              have e' : wA.heap.size = k := by injection e
              subst e'
              exact hgrow3.block _ (by simp; omega) (fun e => by injection e with e; omega)
            exact ts_mk (cap := cap) (hrA.same hb3) hown3 hm (by rcases hat3 with e | e <;> first | omega | (simp at e; omega)) hblt hcap hz3⟩, hb3.alloc hz3 _⟩
  case rest =>
    obtain ⟨Sg, rfl, HT, HBx⟩ := hcut
    obtain ⟨wo, ewo⟩ : ∃ wo, wo = wc := ⟨_, rfl⟩
    subst ewo
    have HOP : Hid (OpsAt oad ops wA) := hops.below hbA
    have HK : Hid (∀ x ∈ roots, okRef W x) := hok
    have HT0 : Hid (TsR wo wA.heap.size Sg ⟨W, roots, shadeL (List.replicate (W.length + 1) 0) (roots.take 0)⟩) := HT
    clear HT hroots hr hops hmk kA hok
    go_wp2_with fail
    go_loopw [8] (fun s8 wr => ∃ (i : Nat), s8 = .int .i64 i ∧ i ≤ roots.length ∧ Hid (TsR wr wA.heap.size Sg ⟨W, roots, shadeL (List.replicate (W.length + 1) 0) (roots.take i)⟩) ∧ Hid (Below wA.heap.size wA wr)) (fun s8 _ => 6000 - (intOf s8).toNat)
    case atStart => exact ⟨0, rfl, Nat.zero_le _, HT0.out, HBx.out⟩
    case round =>
      clear HT0 HBx
      rename_i wr
      obtain ⟨i, rfl, hi1, HT, HB⟩ := hrel
      by_cases hlt : i < roots.length
      · obtain ⟨rb, ro, hrad, hrr⟩ := HRO.out (by omega)
        subst hrad
        have hcr : wr.cell? ⟨rb, ro + i, none⟩ = some (.int .i64 (wd roots i)) := (hrr.same HB.out).cell i hlt
        have hrbl := (hrr.same HB.out).lt
        have hoki := HK.out _ (wd_mem hlt)
        have hir : (i : Int) < (roots.length : Int) := by omega
        have hwi := wrap_id (x := (i : Int) + 1) (by omega) (by omega)
        have HS : Hid (shadeL (List.replicate (W.length + 1) 0) (roots.take (i + 1)) = shadeC (shadeL (List.replicate (W.length + 1) 0) (roots.take i)) (wd roots i)) := by rw [take_snoc hlt, shadeL_snoc]; exact rfl
        obtain ⟨b1, o1, c1, gr, cr, gc, cc, hT⟩ := HT.out
        have hcl := rshade_any wA.heap.size Sg b1 o1 c1 gr cr gc cc W roots _ (wd roots i) wr hT (fun hk => by
          rw [shadeL_length, List.length_replicate]
          have := (place_ge (thing_at (ok_thing hoki hk)).1).2
          omega)
        clear hrr hT
        go_wp2_with (go_at_call 22; refine hcl.mono ?_; rintro e w4 ⟨rfl, hM4, hb4⟩)
        go_roundw
        case rel => exact ⟨i + 1, by first | rfl | simp, by omega, ⟨_, _, _, _, _, _, _, by rw [HS.out]; exact hM4⟩, HB.out.trans hb4⟩
        case measure => simp [intOf]; omega
      · have he : i = roots.length := by omega
        have hir : ¬ (i : Int) < (roots.length : Int) := by omega
        have HT0 : Hid (TsR wr wA.heap.size Sg ((ops.take 0).foldl doT (firstT W roots))) := by have := HT.out; rw [he, List.take_length] at this; exact this
        have HI0 : Hid (TInv W roots ((ops.take 0).foldl doT (firstT W roots)) ∧ ((ops.take 0).foldl doT (firstT W roots)).R.length ≤ roots.length + 0) := ⟨first_inv hc HK.out, Nat.le_refl _⟩
        obtain ⟨w5, ew5⟩ : ∃ w5, w5 = wr := ⟨_, rfl⟩
        subst ew5
        clear HT he
        go_wp2_with fail
        go_loopw [9] (fun s9 wr => ∃ (i : Nat), s9 = .int .i64 i ∧ i ≤ ops.length ∧ Hid (TsR wr wA.heap.size Sg ((ops.take i).foldl doT (firstT W roots))) ∧ Hid (TInv W roots ((ops.take i).foldl doT (firstT W roots)) ∧ ((ops.take i).foldl doT (firstT W roots)).R.length ≤ roots.length + i) ∧ Hid (Below wA.heap.size wA wr)) (fun s9 _ => 6000 - (intOf s9).toNat)
        case atStart => exact ⟨0, rfl, Nat.zero_le _, HT0.out, HI0.out, HB.out⟩
        case round =>
          clear HT0 HI0 HB
          rename_i wr
          obtain ⟨i, rfl, hi1, HT, HI, HB⟩ := hrel
          by_cases hlt : i < ops.length
          · obtain ⟨ob, oo, hoad, hobl, hcs⟩ := (HOP.out.below HB.out) (by omega)
            subst hoad
            obtain ⟨c0, c1, c2, c3, c4, c5⟩ := hcs i hlt
            have hir : (i : Int) < (ops.length : Int) := by omega
            have hwi := wrap_id (x := (i : Int) + 1) (by omega) (by omega)
            have HS : Hid ((ops.take (i + 1)).foldl doT (firstT W roots) = doT ((ops.take i).foldl doT (firstT W roots)) ops[i]) := by rw [List.take_succ_eq_append_getElem hlt, List.foldl_append]; exact rfl
            have hcl := rdo_any wA.heap.size Sg W roots ((ops.take i).foldl doT (firstT W roots)) ops[i] wr HT.out HI.out.1 (by have := HI.out.2; omega) HB.out.size
            have HI' : Hid (TInv W roots (doT ((ops.take i).foldl doT (firstT W roots)) ops[i]) ∧ (doT ((ops.take i).foldl doT (firstT W roots)) ops[i]).R.length ≤ roots.length + (i + 1)) := ⟨do_inv _ HI.out.1, by have := do_roots ((ops.take i).foldl doT (firstT W roots)) ops[i]; have := HI.out.2; omega⟩
            generalize ops[i] = op at *
            obtain ⟨kind, oo', pos, what, form, size⟩ := op
            simp only at c0 c1 c2 c3 c4 c5
            clear hcs
            go_wp2_with (go_at_call 23; refine hcl.mono ?_; rintro e w4 ⟨rfl, hM4, hb4⟩)
            go_roundw
            case rel => exact ⟨i + 1, by first | rfl | simp, by omega, by rw [HS.out]; exact hM4, by rw [HS.out]; exact HI'.out, HB.out.trans hb4⟩
            case measure => simp [intOf]; omega
          · have he : i = ops.length := by omega
            have hir : ¬ (i : Int) < (ops.length : Int) := by omega
            have HTp : Hid (TsR wr wA.heap.size Sg (playT W roots ops)) := by have := HT.out; rw [he, List.take_length] at this; exact this
            have HIp : Hid (TInv W roots (playT W roots ops)) := by have := HI.out.1; rw [he, List.take_length] at this; exact this
            clear HT HI he
            go_wp2_with fail
            generalize hPE : playT W roots ops = s at *
            obtain ⟨W', R', C'⟩ := s
            have HPE : Hid (playT W roots ops = ⟨W', R', C'⟩) := hPE
            obtain ⟨b1, o1, c1, gr, cr, gc, cc, hT⟩ := HTp.out
            obtain ⟨⟨m0, m1, m2⟩, mf⟩ := hT.cells
            have hSl := hT.lt
            obtain ⟨wt, ewt⟩ : ∃ wt, wt = wr := ⟨_, rfl⟩
            subst ewt
            have HT : Hid (TsA wt wA.heap.size Sg b1 o1 c1 gr cr gc cc ⟨W', R', C'⟩) := hT
            have hn1 : ¬ Sg = wt.heap.size := by omega
            have hn2 : ¬ wt.heap.size = Sg := by omega
            clear hT HTp hPE
            go_region
            all_goals go_wp2_with fail
            have hi' : TInv W roots ⟨W', R', C'⟩ := HIp.out
            have hcW : (checkOf W').1 = 0 := hi'.may
            have hfW := fine_of hcW
            have hfw := hfW.few
            have h2W : 2 ≤ W'.length := (front_out (check_fine hcW).1).1
            have HCl : Hid (C'.length = W'.length + 1) := hi'.len
            have hP0 : PlR (wt.alloc (.cells #[.slice (some ⟨b1, o1, none⟩) W'.length c1, sl gr R'.length cr, .slice none 0 0, .bool true, .slice none 0 0] 28)).drew wt (.slice (some ⟨b1, o1, none⟩) W'.length c1) (sl gr R'.length cr) (([] : List Nat).map (wd C')) [] (([] : List Nat).all fun q => wd C' q != 1) (.slice none 0 0) (.slice none 0 0) :=
              ⟨heap_alloc_new wt _, World.ownsRow_nil _ _ _ _, World.ownsRow_nil _ _ _ _, (fun g e => by cases e), ((Below.refl _ _).alloc (Nat.le_refl _) _).drew⟩
            have HP0 : Hid (PlR (wt.alloc (.cells #[.slice (some ⟨b1, o1, none⟩) W'.length c1, sl gr R'.length cr, .slice none 0 0, .bool true, .slice none 0 0] 28)).drew wt (.slice (some ⟨b1, o1, none⟩) W'.length c1) (sl gr R'.length cr) (([] : List Nat).map (wd C')) [] (([] : List Nat).all fun q => wd C' q != 1) (.slice none 0 0) (.slice none 0 0)) := hP0
            clear hP0 m0 m1 m2 mf hi'
            go_loopw [12] (fun s12 wr => ∃ (p : Nat) (pre : List Nat) (ad : Option Addr) (cc' : Nat), s12 = .int .i64 p ∧ Hid (AtPlace W' [] pre p) ∧ Hid (PlR wr wt (.slice (some ⟨b1, o1, none⟩) W'.length c1) (sl gr R'.length cr) (pre.map (wd C')) [] (pre.all fun q => wd C' q != 1) (.slice ad pre.length cc') (.slice none 0 0))) (fun s12 _ => 3000 - (intOf s12).toNat)
            case atStart => exact ⟨2, [], none, 0, rfl, ⟨rfl, hfW.fit, Nat.le_refl _, h2W⟩, HP0.out⟩
            case round =>
              clear HP0
              rename_i wr
              obtain ⟨p, pre, ad, cc', rfl, HA, HP⟩ := hrel
              obtain ⟨⟨x0, x1, x2, x3, x4⟩, xf⟩ := HP.out.cells
              have hXl := HP.out.lt
              have hTr := HT.out.same HP.out.low
              obtain ⟨⟨n0, n1, n2⟩, nf⟩ := hTr.cells
              have hSr := hTr.lt
              have hrow : Row wr b1 o1 W' := hTr.row
              have hbl := hrow.lt
              have hcols : wr.ownsRow wA.heap.size 3 1 (sl gc C'.length cc) C'.length (vals C') := hTr.cols
              have hgl := own_lt hcols
              by_cases hin : p < W'.length
              · have hii : (p : Int) < (W'.length : Int) := by omega
                have hpC : p < C'.length := by have := HCl.out; omega
                have hiC : (p : Int) < (C'.length : Int) := by omega
                obtain ⟨hmem, hnot⟩ := HA.out.mem hin
                have hfo := fits_out (place_fit hfW.fit hmem).2.2.1
                have HNX : Hid (AtPlace W' [] (pre ++ [p]) (nextAt W' p)) := HA.out.next hin
                have hcp := own_wd hcols (i := p) hpC
                have hpl := sizes_le HA.out hfW
                have HE1 : Hid (wr.drew.ownsRow (wt.heap.size + 1) 3 1 (.slice ad pre.length cc') pre.length (vals (pre.map (wd C')))) := by have := HP.out.cs.drew; rw [List.length_map] at this; exact this
                have hsX : wt.heap.size + 1 ≤ wr.heap.size := hXl
                have HOF : Hid ((Value.slice ad pre.length cc').ownBlock ≠ some wt.heap.size) := HP.out.off.1
                go_upto_region 15 with fail
                generalize hY : wd C' p = y at *
                go_cut [] from 76 to 87 (fun wx => ∃ (g c : Nat), Hid (PlR wx wt (.slice (some ⟨b1, o1, none⟩) W'.length c1) (sl gr R'.length cr) ((pre ++ [p]).map (wd C')) [] (pre.all fun q => wd C' q != 1) (sl g (pre.length + 1) c) (.slice none 0 0)))
                case first =>
                  go_region_law (refine step_append_at (y := y) (v := .slice ad pre.length cc') rfl (.tmp 77) (.tmp 85) rfl rfl rfl (HE1.out.alloc _) (cell_one_new _ _ _) (by omega) (by simp; omega) ?_; intro g c w3 hown3 hgrow3 hat3; have hbk := ((hgrow3.block wt.heap.size (by simp; omega) (fun e => HOF.out e.symm)).trans (Below.heap_alloc wr.drew _ _ hXl)); have z2 : w3.cell? ⟨wt.heap.size, 2, none⟩ = some (.slice ad pre.length cc') := (World.cell?_of_block hbk).trans x2; have zf : w3.frozen? ⟨wt.heap.size, 2, none⟩ = false := (World.frozen?_of_block hbk).trans (xf 2); have hz3 := hgrow3.size; have hX3 : wt.heap.size < w3.heap.size := (by simp at hz3; omega))
                  all_goals
                    go_wp2_with fail
                    go_meet
                    refine ⟨g, c, ?_⟩
                    have hg1 := HP.out.drew.growC (x := y) (g := g) (c := c) (w2 := w3) (o := .cells #[.int .i64 y] 3) (by rw [List.length_map, show vals (pre.map (wd C') ++ [y]) = vals (pre.map (wd C')) ++ [.int .i64 y] by simp [vals]]; exact hown3) hgrow3 (by rcases hat3 with e | e; exact Or.inl e; right; simpa using e)
                    rw [List.length_map] at hg1
                    rw [List.map_append, List.map_cons, List.map_nil, hY]
                    exact hg1
                case rest =>
                  obtain ⟨g, c, HP2⟩ := hcut
                  obtain ⟨wq, ewq⟩ : ∃ wq, wq = wc := ⟨_, rfl⟩
                  subst ewq
                  obtain ⟨⟨y0, y1, y2, y3, y4⟩, yf⟩ := HP2.out.cells
                  have hXq := HP2.out.lt
                  have hTq := HT.out.same HP2.out.low
                  obtain ⟨⟨n0', n1', n2'⟩, nf'⟩ := hTq.cells
                  have hSq := hTq.lt
                  have hrowq : Row wq b1 o1 W' := hTq.row
                  have hblq := hrowq.lt
                  have hcq : wq.cell? ⟨gc, p, none⟩ = some (.int .i64 y) := by have := own_wd hTq.cols (i := p) hpC; rw [hY] at this; exact this
                  have hglq := own_lt hTq.cols
                  have hc2 := hrowq.cell (p + 2) (by omega)
                  have hsq : (wd W' (p + 2)).tdiv 4 = (slotsAt W' p : Nat) := by rw [Int.tdiv_eq_ediv_of_nonneg hfo.2.1]; unfold slotsAt; omega
                  have hws := wrap_id (x := ((slotsAt W' p : Nat) : Int)) (by omega) (by omega)
                  have hwt := wrap_id (x := (p : Int) + 3 + ((slotsAt W' p : Nat) : Int)) (by omega) (by omega)
                  have hw2 := wrap_id (x := (p : Int) + 2) (by omega) (by omega)
                  have hw3 := wrap_id (x := (p : Int) + 3) (by omega) (by omega)
                  have hta2 : ((p : Int) + 2).toNat = p + 2 := by omega
                  have hi2 : (p : Int) + 2 < (W'.length : Int) := by omega
                  have HSU : Hid ((p : Int) + 3 + ((slotsAt W' p : Nat) : Int) = ((nextAt W' p : Nat) : Int)) := by unfold nextAt; exact (by omega : (p : Int) + 3 + ((slotsAt W' p : Nat) : Int) = ((p + 3 + slotsAt W' p : Nat) : Int))
                  have hbX : ¬ b1 = wt.heap.size := by have := HT.out.lt_all.2.2; omega
                  have hbX' : ¬ wt.heap.size = b1 := by omega
                  by_cases hg : y = 1
                  · have HD : Hid ((pre ++ [p]).all (fun q => wd C' q != 1) = false) := by rw [List.all_append, List.all_cons, hY, hg]; simp [Hid]
                    subst hg
                    clear hrow hrowq HP HA hcp x0 x1 x2 x3 x4
                    go_wp2_with fail
                    go_roundw
                    case rel => exact ⟨nextAt W' p, pre ++ [p], some ⟨g, 0, none⟩, c, by first | rfl | (rw [HSU.out]) | simp [HSU.out], HNX.out, by rw [HD.out, List.length_append]; exact HP2.out.setD false⟩
                    case measure => simp [intOf]; first | omega | (unfold nextAt; omega)
                  · have HD : Hid ((pre ++ [p]).all (fun q => wd C' q != 1) = pre.all (fun q => wd C' q != 1)) := by rw [List.all_append, List.all_cons, hY]; simp [Hid, hg]
                    have hbe : (y == 1) = false := by simpa using hg
                    clear hrow hrowq HP HA hcp x0 x1 x2 x3 x4 hg
                    go_wp2_with fail
                    go_roundw
                    case rel => exact ⟨nextAt W' p, pre ++ [p], some ⟨g, 0, none⟩, c, by first | rfl | (rw [HSU.out]) | simp [HSU.out], HNX.out, by rw [HD.out, List.length_append]; exact HP2.out⟩
                    case measure => simp [intOf]; first | omega | (unfold nextAt; omega)
              · have hii : ¬ (p : Int) < (W'.length : Int) := by omega
                have hpre : pre = places W' 2 := by have := HA.out.all; rwa [places_end hin, List.append_nil] at this
                have hdn : (places W' 2).all (fun q => wd C' q != 1) = doneT ⟨W', R', C'⟩ := rfl
                have HPd : Hid (PlR wr wt (.slice (some ⟨b1, o1, none⟩) W'.length c1) (sl gr R'.length cr) (coloursT ⟨W', R', C'⟩) ((([] : List Nat).filter fun q => wd C' q == 0).map fun q : Nat => 2 * (q : Int)) (doneT ⟨W', R', C'⟩) (.slice ad pre.length cc') (.slice none 0 0)) := by
                  have := HP.out; rw [hpre, hdn] at this; rw [hpre]; exact this
                obtain ⟨cl, hcl⟩ : ∃ cl, cl = pre.length := ⟨_, rfl⟩
                rw [← hcl] at HPd
                generalize hCL : coloursT ⟨W', R', C'⟩ = CL at *
                have HCL : Hid (coloursT ⟨W', R', C'⟩ = CL) := hCL
                clear hCL
                generalize hD : doneT ⟨W', R', C'⟩ = dn at *
                clear HP HA hpre hdn hrow x0 x1 x2 x3 x4 hcols hcl
                go_wp2_with fail
                go_loopw [13] (fun s13 wr => ∃ (p : Nat) (pre : List Nat) (fad : Option Addr) (fc : Nat), s13 = .int .i64 p ∧ Hid (AtPlace W' [] pre p) ∧ Hid (dn = false → pre = []) ∧ Hid (PlR wr wt (.slice (some ⟨b1, o1, none⟩) W'.length c1) (sl gr R'.length cr) CL ((pre.filter fun q => wd C' q == 0).map fun q : Nat => 2 * (q : Int)) dn (.slice ad cl cc') (.slice fad (pre.filter fun q => wd C' q == 0).length fc))) (fun s13 _ => 3000 - (intOf s13).toNat)
                case atStart => exact ⟨2, [], none, 0, rfl, ⟨rfl, hfW.fit, Nat.le_refl _, h2W⟩, fun _ => rfl, HPd.out⟩
                case round =>
                  clear HPd
                  rename_i wr
                  obtain ⟨p, pre, fad, fc, rfl, HA, HDE, HP⟩ := hrel
                  obtain ⟨⟨x0, x1, x2, x3, x4⟩, xf⟩ := HP.out.cells
                  have hXl := HP.out.lt
                  have hTr := HT.out.same HP.out.low
                  obtain ⟨⟨n0, n1, n2⟩, nf⟩ := hTr.cells
                  have hSr := hTr.lt
                  have hrow : Row wr b1 o1 W' := hTr.row
                  have hbl := hrow.lt
                  have hcols : wr.ownsRow wA.heap.size 3 1 (sl gc C'.length cc) C'.length (vals C') := hTr.cols
                  have hgl := own_lt hcols
                  by_cases hin : p < W'.length ∧ dn = true
                  · obtain ⟨hin, hdt⟩ := hin
                    subst hdt
                    have hii : (p : Int) < (W'.length : Int) := by omega
                    have hpC : p < C'.length := by have := HCl.out; omega
                    have hiC : (p : Int) < (C'.length : Int) := by omega
                    obtain ⟨hmem, hnot⟩ := HA.out.mem hin
                    have hfo := fits_out (place_fit hfW.fit hmem).2.2.1
                    have HNX : Hid (AtPlace W' [] (pre ++ [p]) (nextAt W' p)) := HA.out.next hin
                    have hcp := own_wd hcols (i := p) hpC
                    have hpl := sizes_le HA.out hfW
                    have hfl : (pre.filter fun q => wd C' q == 0).length ≤ 2000 := Nat.le_trans (List.length_filter_le ..) hpl
                    have hc2 := hrow.cell (p + 2) (by omega)
                    have hsq : (wd W' (p + 2)).tdiv 4 = (slotsAt W' p : Nat) := by rw [Int.tdiv_eq_ediv_of_nonneg hfo.2.1]; unfold slotsAt; omega
                    have hws := wrap_id (x := ((slotsAt W' p : Nat) : Int)) (by omega) (by omega)
                    have hwt := wrap_id (x := (p : Int) + 3 + ((slotsAt W' p : Nat) : Int)) (by omega) (by omega)
                    have hw2 := wrap_id (x := (p : Int) + 2) (by omega) (by omega)
                    have hw3 := wrap_id (x := (p : Int) + 3) (by omega) (by omega)
                    have hwm := wrap_id (x := 2 * (p : Int)) (by omega) (by omega)
                    have hta2 : ((p : Int) + 2).toNat = p + 2 := by omega
                    have hi2 : (p : Int) + 2 < (W'.length : Int) := by omega
                    have HSU : Hid ((p : Int) + 3 + ((slotsAt W' p : Nat) : Int) = ((nextAt W' p : Nat) : Int)) := by unfold nextAt; exact (by omega : (p : Int) + 3 + ((slotsAt W' p : Nat) : Int) = ((p + 3 + slotsAt W' p : Nat) : Int))
                    by_cases hg : wd C' p = 0
                    · have HF : Hid ((pre ++ [p]).filter (fun q => wd C' q == 0) = pre.filter (fun q => wd C' q == 0) ++ [p]) := by rw [List.filter_append]; simp [Hid, hg]
                      have hcp0 : wr.cell? ⟨gc, p, none⟩ = some (.int .i64 0) := by rw [← hg]; exact hcp
                      have HFS : Hid (wr.ownsRow (wt.heap.size + 1) 3 1 (.slice fad (pre.filter fun q => wd C' q == 0).length fc) (pre.filter fun q => wd C' q == 0).length (vals ((pre.filter fun q => wd C' q == 0).map fun q : Nat => 2 * (q : Int)))) := by have := HP.out.fs; rw [List.length_map] at this; exact this
                      have HOF : Hid ((Value.slice fad (pre.filter fun q => wd C' q == 0).length fc).ownBlock ≠ some wt.heap.size) := HP.out.off.2
                      generalize hFl : pre.filter (fun q => wd C' q == 0) = fl at *
                      clear hcp hg
                      go_wp2_with (at_builtin; go_must (refine wpList_append_own_at _ rfl (.tmp 123) (.tmp 126) 22 rfl (wt.heap.size + 1) 3 i0 (.int .i64 0) 1 8 ty30 hi hz0 hz1 hz2 rfl (by decide) (.slice fad fl.length fc) fl.length (vals (fl.map fun q : Nat => 2 * (q : Int))) rfl (HFS.out.alloc _) ⟨wr.heap.size, 0, none⟩ 1 1 [.int .i64 (2 * (p : Int))] rfl rfl (cell_one_new _ _ _) (ints_oneCell .i64 [2 * (p : Int)]) (by unfold maxLen; omega) (by omega) (by simp; omega) ?_); intro v' w3 hown3 hgrow3 hnil3 hat3; obtain ⟨g, c, rfl, hg3, hown30⟩ := own_shape hown3 (fun e => by have := (hnil3.1 e).2; omega); have hbk := ((hgrow3.block wt.heap.size (by simp; omega) (fun e => HOF.out e.symm)).trans (Below.heap_alloc wr _ _ hXl)); have z4 : w3.cell? ⟨wt.heap.size, 4, none⟩ = some (.slice fad fl.length fc) := (World.cell?_of_block hbk).trans x4; have zf : w3.frozen? ⟨wt.heap.size, 4, none⟩ = false := (World.frozen?_of_block hbk).trans (xf 4); have hz3 := hgrow3.size; have hX3 : wt.heap.size < w3.heap.size := (by simp at hz3; omega); have hP3 := HP.out.growF (x := 2 * (p : Int)) (g := g) (c := c) (w2 := w3) (o := .cells #[.int .i64 (2 * (p : Int))] 3) (by rw [List.length_map, show vals ((fl.map fun q : Nat => 2 * (q : Int)) ++ [2 * (p : Int)]) = vals (fl.map fun q : Nat => 2 * (q : Int)) ++ [.int .i64 (2 * (p : Int))] by simp [vals]]; exact hown3) hgrow3 (by rcases hat3 with e | e; exact Or.inl e.symm; right; (injection e with e; simpa using e)); have hT3 := HT.out.same hP3.low; have hr3 : Row _ b1 o1 W' := hT3.row; rw [List.length_map] at hr3; have hc3 := hr3.cell (p + 2) (by omega); have hbl3 := hr3.lt)
                      rw [List.length_map] at hP3
                      refine ⟨⟨nextAt W' p, pre ++ [p], some ⟨g, 0, none⟩, c, by first | rfl | (rw [HSU.out]) | simp [HSU.out], HNX.out, (fun h => by cases h), ?_⟩, by simp [intOf]; first | omega | (unfold nextAt; omega)⟩
                      rw [HF.out, List.map_append, List.length_append]
                      exact hP3
                    · have HF : Hid ((pre ++ [p]).filter (fun q => wd C' q == 0) = pre.filter (fun q => wd C' q == 0)) := by rw [List.filter_append]; simp [Hid, hg]
                      have hbe : (wd C' p == 0) = false := by simpa using hg
                      generalize wd C' p = y at *
                      clear hrow hg
                      go_wp2_with fail
                      go_roundw
                      case rel => exact ⟨nextAt W' p, pre ++ [p], fad, fc, by first | rfl | (rw [HSU.out]) | simp [HSU.out], HNX.out, (fun h => by cases h), by rw [HF.out]; exact HP.out⟩
                      case measure => simp [intOf]; first | omega | (unfold nextAt; omega)
                  · have HFR : Hid ((pre.filter fun q => wd C' q == 0).map (fun q : Nat => 2 * (q : Int)) = freedT ⟨W', R', C'⟩) := by
                      unfold freedT
                      rw [hD]
                      cases dn with
                      | true =>
                        have hp' : ¬ p < W'.length := fun h => hin ⟨h, rfl⟩
                        have hpre : pre = places W' 2 := by have := HA.out.all; rwa [places_end hp', List.append_nil] at this
                        rw [if_pos rfl, hpre]; exact rfl
                      | false => rw [if_neg (by decide), HDE.out rfl]; exact rfl
                    have hBr : Below wA.heap.size wA wr := HB.out.trans (HP.out.low.mono HB.out.size)
                    have hKlt : w.heap.size + 1 < wA.heap.size := by have := HSA.out; omega
                    have hbx := (hBr.block (w.heap.size + 1) hKlt).trans HRB.out
                    have t0 : wr.cell? ⟨w.heap.size + 1, 0, none⟩ = some (.slice none 0 0) := cell_of_row _ _ _ _ _ _ hbx
                    have t1 : wr.cell? ⟨w.heap.size + 1, 1, none⟩ = some (.slice none 0 0) := cell_of_row _ _ _ _ _ _ hbx
                    have t2 : wr.cell? ⟨w.heap.size + 1, 2, none⟩ = some (.slice none 0 0) := cell_of_row _ _ _ _ _ _ hbx
                    have t3 : wr.cell? ⟨w.heap.size + 1, 3, none⟩ = some (.bool false) := cell_of_row _ _ _ _ _ _ hbx
                    have t4 : wr.cell? ⟨w.heap.size + 1, 4, none⟩ = some (.slice none 0 0) := cell_of_row _ _ _ _ _ _ hbx
                    have tf : ∀ k, wr.frozen? ⟨w.heap.size + 1, k, none⟩ = false := fun k => frozen_of_row _ _ _ _ _ hbx
                    have hKr : w.heap.size + 1 < wr.heap.size := (Array.getElem?_eq_some_iff.1 hbx).1
                    have hbK : b1 ≠ w.heap.size + 1 := fun e => by
                      have hc := hrow.cell 0 (by omega)
                      rw [e, cell_of_row _ _ _ _ _ _ hbx, Nat.add_zero] at hc
                      match o1, hc with
                      | 0, hc => simp at hc
                      | 1, hc => simp at hc
                      | 2, hc => simp at hc
                      | 3, hc => simp at hc
                      | 4, hc => simp at hc
                      | o + 5, hc => simp at hc
                    have HRows : Hid (∀ wF : World, (∀ k, k ≠ w.heap.size + 1 → wF.heap[k]? = wr.heap[k]?) → wr.heap.size ≤ wF.heap.size → PlayAns' wF ⟨W', R', C'⟩ (.slice (some ⟨b1, o1, none⟩) W'.length c1) (sl gr R'.length cr) (.slice ad cl cc') (.slice fad (pre.filter fun q => wd C' q == 0).length fc)) := fun wF hk hs => by
                      have hgrB := (hTr.roots.lt gr rfl).1
                      refine ⟨Reads.of_row ⟨by have := hrow.lt; omega, fun k hk' => by rw [World.cell?_of_block (hk b1 hbK)]; exact hrow.cell k hk', hrow.wf⟩, Reads.of_own (own_same hTr.roots fun g e => hk g (by have e' : gr = g := (by injection e); omega)), ?_, ?_⟩
                      · rw [HCL.out]; exact Reads.of_own (own_same HP.out.cs fun g e => hk g (by have := (HP.out.cs.lt g e).1; have := HB.out.size; omega))
                      · rw [← HFR.out]; exact Reads.of_own (own_same HP.out.fs fun g e => hk g (by have := (HP.out.fs.lt g e).1; have := HB.out.size; omega))
                    have HBW : Hid (Below w.heap.size w wr) := hbA.trans (hBr.mono hbA.size)
                    have hXK : ¬ wt.heap.size = w.heap.size + 1 := by have := HB.out.size; omega
                    have hXK' : ¬ w.heap.size + 1 = wt.heap.size := by omega
                    by_cases hp : p < W'.length
                    · have hdf : dn = false := by cases dn with
                        | true => exact absurd ⟨hp, rfl⟩ hin
                        | false => rfl
                      subst hdf
                      have hii : (p : Int) < (W'.length : Int) := by omega
                      clear hin hrow hcols
                      go_wp2_with fail
                      refine bodyPost_ret (v := .agg #[.slice (some ⟨b1, o1, none⟩) W'.length c1, sl gr R'.length cr, .slice ad cl cc', .bool false, .slice fad (pre.filter fun q => wd C' q == 0).length fc]) (by simp [results, Try.results10, go_sem, t0, t1, t2, t3, t4]) rfl ⟨⟨_, _, _, _, by rw [HPE.out, hD], by rw [HPE.out]; exact HRows.out _ (fun k hk => set5 hk) (by simp)⟩, ((((HBW.out.setCell (p := ⟨w.heap.size + 1, 0, none⟩) (by dsimp only; omega) _).setCell (p := ⟨w.heap.size + 1, 1, none⟩) (by dsimp only; omega) _).setCell (p := ⟨w.heap.size + 1, 2, none⟩) (by dsimp only; omega) _).setCell (p := ⟨w.heap.size + 1, 3, none⟩) (by dsimp only; omega) _).setCell (p := ⟨w.heap.size + 1, 4, none⟩) (by dsimp only; omega) _⟩
                    · have hii : ¬ (p : Int) < (W'.length : Int) := by omega
                      clear hin hrow hcols
                      go_wp2_with fail
                      refine bodyPost_ret (v := .agg #[.slice (some ⟨b1, o1, none⟩) W'.length c1, sl gr R'.length cr, .slice ad cl cc', .bool dn, .slice fad (pre.filter fun q => wd C' q == 0).length fc]) (by simp [results, Try.results10, go_sem, t0, t1, t2, t3, t4]) rfl ⟨⟨_, _, _, _, by rw [HPE.out, hD], by rw [HPE.out]; exact HRows.out _ (fun k hk => set5 hk) (by simp)⟩, ((((HBW.out.setCell (p := ⟨w.heap.size + 1, 0, none⟩) (by dsimp only; omega) _).setCell (p := ⟨w.heap.size + 1, 1, none⟩) (by dsimp only; omega) _).setCell (p := ⟨w.heap.size + 1, 2, none⟩) (by dsimp only; omega) _).setCell (p := ⟨w.heap.size + 1, 3, none⟩) (by dsimp only; omega) _).setCell (p := ⟨w.heap.size + 1, 4, none⟩) (by dsimp only; omega) _⟩
end Go.Proofs.Ytabniplgibfgeaa
