/- (*pairing).alike: two references are the same small one, both nil, or of things that are given to each other. -/
import Derived.Test.YtpapaadclkdbkaaPairing
import Derived.BigRegion
namespace Go.Proofs.Ytpapaadclkdbkaa
open Go.RowKit
open Go.Maps (Keyed keyOf_int_mk)

/-- append of one pair to a row of one's own: where the row lies then. -/
theorem append_where2 {w : World} {ty : TypeId} {base n c : Nat} {v v' : Value} {w' : World} {xs : List Value} {ad : Addr} {x y : Value} (hown : w.ownsRow base 100 2 v n xs) (hx : ∀ j u, [x, y][j]? = some u → w.cell? (ad.add j) = some u) (h1 : x.oneCell' = true ∧ y.oneCell' = true) (hb : n ≤ 1000000)
    (hr : (Builtin.append_ #[78, 78] ty #[v, .slice (some ad) 1 c]).run Try.prog w = .ok v' w') : v'.ownBlock = v.ownBlock ∨ v'.ownBlock = some w.heap.size := by
  obtain ⟨i, hi, hz0, hz1, hz2⟩ := info_parts info74
  rcases hown.2 with ⟨rfl, rfl⟩ | ⟨g, cap, cur, rfl, hbg, hg, hnc, hcm, hcs, htake⟩
  · have h := run_append_nil (P := Try.prog) w 78 ty 100 i _ tyPairs hi hz0 ad 1 c [x, y] (by rw [hz1]; rfl) hx (by omega) (by omega) (by rw [hz2]; omega)
    rw [h] at hr
    injection hr with e1 e2
    subst e1; exact Or.inr rfl
  · by_cases hroom : n + 1 ≤ cap
    · obtain ⟨w2, h, _⟩ := run_append_fits (P := Try.prog) w base 78 ty 100 i 2 tyPairs hi hz1 g n cap xs hown ad 1 c [x, y] rfl hx (by intro u hu; simp at hu; rcases hu with rfl | rfl; exact h1.1; exact h1.2) hroom
      rw [h] at hr
      injection hr with e1 e2
      subst e1; exact Or.inl rfl
    · have h := run_append_grow (P := Try.prog) w 78 ty 100 i _ tyPairs hi hz0 ⟨g, 0, none⟩ n cap xs (by rw [hown.1, hz1]) (hown.cells (g := g) rfl) ad 1 c [x, y] (by rw [hz1]; rfl) hx (by omega) (by omega) (growslice_fits (by omega) (by rw [hz2]; omega))
      rw [h] at hr
      injection hr with e1 e2
      subst e1; exact Or.inr rfl
theorem wpList_append_where2 {ops : Array Oper} {rest : List Oper} {o : Oper} {a : Act} {w : World} {Q : Exit → Act → World → Prop} (hgd : o.guard = none) (s x : Operand)
    (ho : o.op = .call { callee := .builtin .append, args := #[s, x], argTypes := #[78, 78] }) (base n c : Nat) (v y z : Value) (xs : List Value) (hs : a.eval s = v) (hown : w.ownsRow base 100 2 v n xs)
    (ad : Addr) (hx : a.eval x = .slice (some ad) 1 c) (hc : ∀ j u, [y, z][j]? = some u → w.cell? (ad.add j) = some u) (h1 : y.oneCell' = true ∧ z.oneCell' = true) (hb : n ≤ 1000000) (hbase : base ≤ w.heap.size)
    (h : ∀ g cap' w', w'.ownsRow base 100 2 (sl g (n + 1) cap') (n + 1) (xs ++ [y, z]) → w.grownBy w' v.ownBlock → (v.ownBlock = some g ∨ g = w.heap.size) → wpList Try.prog ops Q rest (a.put o.dst (sl g (n + 1) cap')) w') : wpList Try.prog ops Q (o :: rest) a w := by
  refine wpList_plain hgd fun K' hK' => ?_
  obtain ⟨i, hi, hz0, hz1, hz2⟩ := info_parts info74
  obtain ⟨v', w', hr, r1, r2, _⟩ := run_append_own (P := Try.prog) w base 78 o.type 100 i _ 2 16 tyPairs hi hz0 hz1 hz2 rfl (by decide) v n xs hown ad 1 c [y, z] rfl hc (by intro u hu; simp at hu; rcases hu with rfl | rfl; exact h1.1; exact h1.2) (by unfold maxLen; omega) (by omega) hbase
  have hw := append_where2 hown hc h1 hb hr
  rcases r1.2 with ⟨_, h0⟩ | ⟨g, cap, cur, rfl, r⟩
  · omega
  · unfold Oper.wp
    simp [execOp, ho, resolve, invoke, builtin, hs, hx, hr, Result.andThen]
    exact hK' _ _ (h g cap w' r1 r2 (by rcases hw with hw | hw; exact Or.inl hw.symm; exact Or.inr (by simpa [Value.ownBlock] using hw)))

theorem dom_snoc (P : Pairs) (x y : Int) : dom (P ++ [(x, y)]) = dom P ++ [x] := by simp [dom]
theorem img_snoc (P : Pairs) (x y : Int) : img (P ++ [(x, y)]) = img P ++ [y] := by simp [img]
theorem turn_snoc (P : Pairs) (x y : Int) : turn (P ++ [(x, y)]) = turn P ++ [(y, x)] := by simp [turn]
theorem Given.put {w w' : World} {m n : Nat} {ks : List Int} {P : Pairs} {D : DataW Unit} {x y : Int} (h : Given w m ks n P D) (hd : ∀ a c, (a, c) ∈ P → a ∈ ks) (hn : x ∉ ks) (ho : w'.ownsMap Try.prog 3 (plainElem Try.prog 3) m (n + 1) (D.put (.int .i64 x) (.lit (.int .i64 y)))) :
    Given w' m (ks ++ [x]) (n + 1) (P ++ [(x, y)]) (D.put (.int .i64 x) (.lit (.int .i64 y))) := by
  refine ⟨ho, fun a => ?_, fun a c hm => ?_⟩
  · by_cases e : a = x
    · subst e
      rw [Go.Maps.has_put_same h.own.isMap (show WideAt.IsKeyLit (.int .i64 _) from trivial)]; simp
    · rw [Go.Maps.has_put_other (fun he => e (by simp at he; omega)), h.has a]
      simp [e]
  · rcases List.mem_append.1 hm with hm | hm
    · have : a ≠ x := fun e => hn (e ▸ hd a c hm)
      rw [Go.Maps.atKey_put_other (fun he => this (by simp at he; omega))]
      exact h.val a c hm
    · rw [List.mem_singleton] at hm
      injection hm with e1 e2
      subst e1 e2
      exact Go.Maps.atKey_put_same h.own.isMap (show WideAt.IsKeyLit (.int .i64 _) from trivial) _ _

theorem IsView.kept_low {w w' : World} {b cap bm B : Nat} {W : List Int} (h : IsView w b cap bm W) (hb : Below B w w') (h1 : b < B) (h2 : bm < B) : IsView w' b cap bm W :=
  ⟨ownsRow_below h.own hb h1, h.wf, h.begun.below hb h2⟩

/-- Two more are given to each other. -/
theorem Pairing.more {W V : List Int} {b cap bm b' cap' bm' L m1 m2 Q : Nat} {P : Pairs} {vp : Value} {D1 D2 : DataW Unit} {w wB wD wE : World} {x y : Int} {ob : Obj} {g c : Nat} (h : Pairing W V b cap bm b' cap' bm' L m1 m2 Q P vp D1 D2 w) (hx : x ∉ dom P) (hy : y ∉ img P)
    (hm1 : wB.ownsMap Try.prog 3 (plainElem Try.prog 3) m1 (P.length + 1) (D1.put (.int .i64 x) (.lit (.int .i64 y)))) (hg1 : w.grownBy wB (some m1)) (hm2 : wD.ownsMap Try.prog 3 (plainElem Try.prog 3) m2 (P.length + 1) (D2.put (.int .i64 y) (.lit (.int .i64 x)))) (hg2 : wB.grownBy wD (some m2))
    (hown : wE.ownsRow (max (max m1 m2) Q + 1) 100 2 (sl g (P.length + 1) c) (P.length + 1) (pvals P ++ [.int .i64 x, .int .i64 y])) (hgE : (wD.alloc ob).grownBy wE vp.ownBlock) (hrow : vp.ownBlock = some g ∨ g = (wD.alloc ob).heap.size) :
    Pairing W V b cap bm b' cap' bm' L m1 m2 Q (P ++ [(x, y)]) (sl g (P.length + 1) c) (D1.put (.int .i64 x) (.lit (.int .i64 y))) (D2.put (.int .i64 y) (.lit (.int .i64 x))) (wE.setCell ⟨Q, 6, none⟩ (sl g (P.length + 1) c)) ∧
      Moved L m1 m2 Q vp (sl g (P.length + 1) c) w (wE.setCell ⟨Q, 6, none⟩ (sl g (P.length + 1) c)) := by
  obtain ⟨l1, l2, l3, l4⟩ := h.low
  obtain ⟨d1, d2, d3, d4, d5, d6⟩ := h.mid
  have dm1 := h.one.own.lt
  have dm2 := h.other.own.lt
  have hs := h.size
  have hs1 := hg1.size
  have hs2 := hg2.size
  have hsE := hgE.size
  have hsa : (wD.alloc ob).heap.size = wD.heap.size + 1 := by simp
  have hsc : (wE.setCell ⟨Q, 6, none⟩ (sl g (P.length + 1) c)).heap.size = wE.heap.size := by simp [World.setCell]
  have ho : ∀ k, vp.ownBlock = some k → max (max m1 m2) Q + 1 ≤ k := fun k hk => (h.own.lt k hk).1
  have eE : ∀ k, k < wD.heap.size → vp.ownBlock ≠ some k → wE.heap[k]? = wD.heap[k]? := fun k hk hn => (hgE.block k (by omega) (fun e => hn e.symm)).trans (Below.heap_alloc _ _ _ hk)
  have eC : ∀ k, k ≠ Q → (wE.setCell ⟨Q, 6, none⟩ (sl g (P.length + 1) c)).heap[k]? = wE.heap[k]? := fun k hk => Below.heap_setCell _ _ _ _ (by dsimp only; omega)
  have key : ∀ k, k < w.heap.size → k ≠ m1 → k ≠ m2 → k ≠ Q → vp.ownBlock ≠ some k → (wE.setCell ⟨Q, 6, none⟩ (sl g (P.length + 1) c)).heap[k]? = w.heap[k]? := fun k h1 h2 h3 h4 h5 => by
    rw [eC k h4, eE k (by omega) h5, hg2.block k (by omega) (fun e => h3 (by injection e)), hg1.block k h1 (fun e => h2 (by injection e))]
  have hB : Below L w (wE.setCell ⟨Q, 6, none⟩ (sl g (P.length + 1) c)) :=
    (((((Below.refl L w).grown hg1 (by omega) (fun k hk => by injection hk; omega)).grown hg2 (by omega) (fun k hk => by injection hk; omega)).alloc (by omega) ob).grown hgE (by omega) (fun k hk => by have := ho k hk; omega)).setCell (p := ⟨Q, 6, none⟩) (by dsimp only; omega) _
  have hQ : wE.heap[Q]? = w.heap[Q]? := by
    rw [eE Q (by omega) (fun e => by have := ho _ e; omega), hg2.block Q (by omega) (fun e => by injection e with e; omega), hg1.block Q (by omega) (fun e => by injection e with e; omega)]
  have cq : ∀ j, wE.cell? ⟨Q, j, none⟩ = w.cell? ⟨Q, j, none⟩ := fun j => World.cell?_of_block (a := ⟨Q, j, none⟩) hQ
  have cs : ∀ j, j ≠ 6 → (wE.setCell ⟨Q, 6, none⟩ (sl g (P.length + 1) c)).cell? ⟨Q, j, none⟩ = w.cell? ⟨Q, j, none⟩ := fun j hj => by
    rw [World.cell?_setCell_other _ _ _ _ (by intro e; injection e with e1 e2; exact hj (by first | exact e2 | exact e2.symm | omega))]; exact cq j
  refine ⟨⟨h.view1.kept_low hB l1 l2, h.view2.kept_low hB l3 l4, h.low, h.mid, (cs 0 (by decide)).trans h.c0, (cs 1 (by decide)).trans h.c1, (cs 2 (by decide)).trans h.c2, (cs 3 (by decide)).trans h.c3, (cs 4 (by decide)).trans h.c4, (cs 5 (by decide)).trans h.c5, ?_, ?_, ?_, ?_, ?_, by omega⟩, hB, by omega, key, ?_⟩
  · exact World.cell?_setCell_same' _ _ _ (by rw [cq 6, h.c6]; rfl)
  · rw [World.frozen?_setCell, World.frozen?_of_block (a := ⟨Q, 6, none⟩) hQ]; exact h.fz
  · rw [dom_snoc, List.length_append]
    refine (h.one.put (fun a c hm => mem_dom hm) hx (w' := wE.setCell ⟨Q, 6, none⟩ (sl g (P.length + 1) c)) (map_block hm1 ?_))
    rw [eC m1 (by omega), eE m1 (by have := hm1.lt; omega) (fun e => by have := ho _ e; omega), hg2.block m1 (by have := hm1.lt; omega) (fun e => by injection e with e; omega)]
  · rw [img_snoc, turn_snoc, List.length_append]
    refine (h.other.put (fun a c hm => mem_img (mem_turn.1 hm)) hy (w' := wE.setCell ⟨Q, 6, none⟩ (sl g (P.length + 1) c)) (map_block hm2 ?_))
    rw [eC m2 (by omega), eE m2 (by have := hm2.lt; omega) (fun e => by have := ho _ e; omega)]
  · rw [pvals_snoc, List.length_append]
    exact own_same2 hown fun k hk => eC k (by have := (hown.lt k hk).1; omega)
  · rcases hrow with hr | hr
    · exact Or.inl (by rw [hr]; rfl)
    · exact Or.inr ⟨g, by omega, rfl⟩

end Go.Proofs.Ytpapaadclkdbkaa
