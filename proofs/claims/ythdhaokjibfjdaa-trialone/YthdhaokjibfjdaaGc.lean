/- Several texts in one. -/
import Derived.Test.YthdhaokjibfjdaaGrowX
import Derived.Test.YthdhaokjibfjdaaGm
import Derived.Test.YthdhaokjibfjdaaSeeRootsX
import Derived.Test.YthdhaokjibfjdaaOwnKitX
import Derived.Test.YthdhaokjibfjdaaLookX
import Derived.Test.YthdhaokjibfjdaaShelf
import Derived.Test.YthdhaokjibfjdaaGn
import Derived.Maps.OwnSet
import Derived.Laws.AppendOwnNone
import Derived.Sort.OwnSortedInts
import Derived.Deep.RegionWith
import Derived.Deep.CutRange
import Derived.Deep.DeepCutAuto
import Derived.OwnWalk
/- The closure of reach.From: who is come to. -/
namespace Go.Proofs.Ythdhaokjibfjdaa
open Go.RowKit
open Go.Maps (Keyed keyOf_int_mk)

theorem tySet : Try.prog.underlying 73 = some (.map 3 74) := by kernel_rfl
theorem zeroUnit (w : World) : (zeroValue 74).run Try.prog w = .ok (.agg #[]) w := by kernel_rfl

/-- append of one number to a row of one's own: where the row lies then. -/
theorem append_where {w : World} {ty : TypeId} {base n c : Nat} {v v' : Value} {w' : World} {xs : List Value} {ad : Addr} {x : Value} (hown : w.ownsRow base 3 1 v n xs) (hx : ∀ j u, [x][j]? = some u → w.cell? (ad.add j) = some u) (h1 : x.oneCell' = true) (hb : n ≤ 1000000)
    (hr : (Builtin.append_ #[22, 22] ty #[v, .slice (some ad) 1 c]).run Try.prog w = .ok v' w') : v'.ownBlock = v.ownBlock ∨ v'.ownBlock = some w.heap.size := by
  obtain ⟨i, hi, hz0, hz1, hz2⟩ := info_parts info3
  rcases hown.2 with ⟨rfl, rfl⟩ | ⟨g, cap, cur, rfl, hbg, hg, hnc, hcm, hcs, htake⟩
  · have h := run_append_nil (P := Try.prog) w 22 ty 3 i _ ty30 hi hz0 ad 1 c [x] (by rw [hz1]; rfl) hx (by omega) (by omega) (by rw [hz2]; omega)
    rw [h] at hr
    injection hr with e1 e2
    subst e1; exact Or.inr rfl
  · by_cases hroom : n + 1 ≤ cap
    · obtain ⟨w2, h, _⟩ := run_append_fits (P := Try.prog) w base 22 ty 3 i 1 ty30 hi hz1 g n cap xs hown ad 1 c [x] rfl hx (by intro u hu; rw [List.mem_singleton] at hu; subst hu; exact h1) hroom
      rw [h] at hr
      injection hr with e1 e2
      subst e1; exact Or.inl rfl
    · have h := run_append_grow (P := Try.prog) w 22 ty 3 i _ ty30 hi hz0 ⟨g, 0, none⟩ n cap xs (by rw [hown.1, hz1]) (hown.cells (g := g) rfl) ad 1 c [x] (by rw [hz1]; rfl) hx (by omega) (by omega) (growslice_fits (by omega) (by rw [hz2]; omega))
      rw [h] at hr
      injection hr with e1 e2
      subst e1; exact Or.inr rfl

theorem wpList_append_where {ops : Array Oper} {rest : List Oper} {o : Oper} {a : Act} {w : World} {Q : Exit → Act → World → Prop} (hgd : o.guard = none) (s x : Operand)
    (ho : o.op = .call { callee := .builtin .append, args := #[s, x], argTypes := #[22, 22] }) (base n c : Nat) (v y : Value) (xs : List Value) (hs : a.eval s = v) (hown : w.ownsRow base 3 1 v n xs)
    (ad : Addr) (hx : a.eval x = .slice (some ad) 1 c) (hc : ∀ j u, [y][j]? = some u → w.cell? (ad.add j) = some u) (h1 : y.oneCell' = true) (hb : n ≤ 1000000) (hbase : base ≤ w.heap.size)
    (h : ∀ v' w', w'.ownsRow base 3 1 v' (n + 1) (xs ++ [y]) → w.grownBy w' v.ownBlock → (v'.ownBlock = v.ownBlock ∨ v'.ownBlock = some w.heap.size) → wpList Try.prog ops Q rest (a.put o.dst v') w') : wpList Try.prog ops Q (o :: rest) a w := by
  refine wpList_plain hgd fun K' hK' => ?_
  obtain ⟨i, hi, hz0, hz1, hz2⟩ := info_parts info3
  obtain ⟨v', w', hr, r1, r2, _⟩ := run_append_own (P := Try.prog) w base 22 o.type 3 i _ 1 8 ty30 hi hz0 hz1 hz2 rfl (by decide) v n xs hown ad 1 c [y] rfl hc (by intro u hu; rw [List.mem_singleton] at hu; subst hu; exact h1) (by unfold maxLen; omega) (by omega) hbase
  have hw := append_where hown hc h1 hb hr
  unfold Oper.wp
  simp [execOp, ho, resolve, invoke, builtin, hs, hx, hr, Result.andThen]
  exact hK' _ _ (h v' w' r1 r2 hw)

theorem own_slice {w : World} {B n : Nat} {v : Value} {xs : List Value} (h : w.ownsRow B 3 1 v (n + 1) xs) : ∃ g cap, v = sl g (n + 1) cap := by
  rcases h.2 with ⟨_, h0⟩ | ⟨g, cap, cur, rfl, _⟩
  · omega
  · exact ⟨g, cap, rfl⟩

/-- What From keeps: its view (box N), who was come to (the set in block N + 1, in box N + 2; the row in box N + 3). -/
structure Come (W : List Int) (b cap bm N : Nat) (f : List Int) (vf : Value) (D : DataW Unit) (w : World) : Prop where
  view : IsView w b cap bm W
  lb : b < N
  lbm : bm < N
  v0 : w.cell? ⟨N, 0, none⟩ = some (sl b W.length cap)
  v1 : w.cell? ⟨N, 1, none⟩ = some (.map (some bm))
  set : w.ownsMap Try.prog 3 (unitElem (H := Unit)) (N + 1) f.length D
  has : ∀ o : Int, Go.Maps.has D (.int .i64 o) = f.contains o
  s0 : w.cell? ⟨N + 2, 0, none⟩ = some (.map (some (N + 1)))
  f0 : w.cell? ⟨N + 3, 0, none⟩ = some vf
  fz : w.frozen? ⟨N + 3, 0, none⟩ = false
  own : w.ownsRow (N + 4) 3 1 vf f.length (vals f)
  size : N + 4 ≤ w.heap.size

theorem Come.below {W : List Int} {b cap bm N : Nat} {f : List Int} {vf : Value} {D : DataW Unit} {w w' : World} (h : Come W b cap bm N f vf D w) (hb : Below w.heap.size w w') : Come W b cap bm N f vf D w' := by
  have hs := h.size
  refine ⟨h.view.same hb, h.lb, h.lbm, through hb h.v0 (by dsimp only; omega), through hb h.v1 (by dsimp only; omega), ownsMap_below h.set hb h.set.lt, h.has, through hb h.s0 (by dsimp only; omega), through hb h.f0 (by dsimp only; omega), throughF hb h.fz (by dsimp only; omega), own_same h.own fun g hg => hb.block g (h.own.lt g hg).2, by have := hb.size; omega⟩

/-- One more is come to. -/
theorem Come.more {W : List Int} {b cap bm N : Nat} {f : List Int} {vf v' : Value} {D : DataW Unit} {w w3 w4 : World} {o : Int} {ob : Obj} (h : Come W b cap bm N f vf D w) (hm : w3.ownsMap Try.prog 3 (unitElem (H := Unit)) (N + 1) (f.length + 1) (D.put (.int .i64 o) (.agg [])))
    (hg3 : w.grownBy w3 (some (N + 1))) (hown : w4.ownsRow (N + 4) 3 1 v' (f.length + 1) (vals f ++ [.int .i64 o])) (hg4 : (w3.alloc ob).grownBy w4 vf.ownBlock) :
    Come W b cap bm N (f ++ [o]) v' (D.put (.int .i64 o) (.agg [])) (w4.setCell ⟨N + 3, 0, none⟩ v') ∧ Below N w (w4.setCell ⟨N + 3, 0, none⟩ v') ∧
      (∀ k, k < w.heap.size → k ≠ N + 1 → k ≠ N + 3 → vf.ownBlock ≠ some k → (w4.setCell ⟨N + 3, 0, none⟩ v').heap[k]? = w.heap[k]?) ∧ w.heap.size ≤ (w4.setCell ⟨N + 3, 0, none⟩ v').heap.size := by
  have hs := h.size
  have hs3 := hg3.size
  have hs4 := hg4.size
  have hsa : (w3.alloc ob).heap.size = w3.heap.size + 1 := by simp
  have hsc : (w4.setCell ⟨N + 3, 0, none⟩ v').heap.size = w4.heap.size := by simp [World.setCell]
  have hown0 : ∀ k, vf.ownBlock = some k → N + 4 ≤ k := fun k hk => (h.own.lt k hk).1
  have e4 : ∀ k, k < w3.heap.size → vf.ownBlock ≠ some k → w4.heap[k]? = w3.heap[k]? := fun k hk hn => (hg4.block k (by omega) (fun e => hn e.symm)).trans (Below.heap_alloc _ _ _ hk)
  have e5 : ∀ k, k ≠ N + 3 → (w4.setCell ⟨N + 3, 0, none⟩ v').heap[k]? = w4.heap[k]? := fun k hk => Below.heap_setCell _ _ _ _ (by dsimp only; omega)
  have key : ∀ k, k < w.heap.size → k ≠ N + 1 → k ≠ N + 3 → vf.ownBlock ≠ some k → (w4.setCell ⟨N + 3, 0, none⟩ v').heap[k]? = w.heap[k]? := fun k h1 h2 h3 h4 => by
    rw [e5 k h3, e4 k (by omega) h4]; exact hg3.block k h1 (fun e => h2 (by injection e))
  have low : ∀ k, k < N + 4 → k ≠ N + 1 → k ≠ N + 3 → (w4.setCell ⟨N + 3, 0, none⟩ v').heap[k]? = w.heap[k]? := fun k h1 h2 h3 => key k (by omega) h2 h3 (fun e => by have := hown0 k e; omega)
  have hB : Below N w (w4.setCell ⟨N + 3, 0, none⟩ v') :=
    ((((Below.refl N w).grown hg3 (by omega) (fun k hk => by injection hk; omega)).alloc (by omega) ob).grown hg4 (by omega) (fun k hk => by have := hown0 k hk; omega)).setCell (p := ⟨N + 3, 0, none⟩) (by dsimp only; omega) v'
  have hf3 : w4.cell? ⟨N + 3, 0, none⟩ = some vf := by
    rw [World.cell?_of_block (a := ⟨N + 3, 0, none⟩) ((e4 (N + 3) (by omega) (fun e => by have := hown0 _ e; omega)).trans (hg3.block (N + 3) (by omega) (fun e => by injection e with e; omega)))]; exact h.f0
  have hz3 : w4.frozen? ⟨N + 3, 0, none⟩ = false := by
    rw [World.frozen?_of_block (a := ⟨N + 3, 0, none⟩) ((e4 (N + 3) (by omega) (fun e => by have := hown0 _ e; omega)).trans (hg3.block (N + 3) (by omega) (fun e => by injection e with e; omega)))]; exact h.fz
  have hb1 := h.lb
  have hb2 := h.lbm
  refine ⟨⟨?_, h.lb, h.lbm, ?_, ?_, ?_, fun x => ?_, ?_, ?_, ?_, ?_, by omega⟩, hB, key, by omega⟩
  · obtain ⟨n, D', ho, r⟩ := h.view.begun
    refine ⟨own_same h.view.own fun g hg => ?_, h.view.wf, n, D', ?_, r⟩
    · have : g = b := by simp [Value.ownBlock] at hg; omega
      subst this; exact hB.block g (by omega)
    · exact ownsMap_below ho hB (by omega)
  · rw [World.cell?_of_block (a := ⟨N, 0, none⟩) (low N (by omega) (by omega) (by omega))]; exact h.v0
  · rw [World.cell?_of_block (a := ⟨N, 1, none⟩) (low N (by omega) (by omega) (by omega))]; exact h.v1
  · have : (w4.setCell ⟨N + 3, 0, none⟩ v').heap[N + 1]? = w3.heap[N + 1]? := (e5 (N + 1) (by omega)).trans (e4 (N + 1) (by omega) (fun e => by have := hown0 _ e; omega))
    obtain ⟨es, clock, hb0, r⟩ := hm
    rw [List.length_append]
    exact ⟨es, clock, by rw [this]; exact hb0, r⟩
  · by_cases e : x = o
    · subst e
      rw [Go.Maps.has_put_same h.set.isMap (show WideAt.IsKeyLit (.int .i64 _) from trivial)]; simp
    · rw [Go.Maps.has_put_other (fun he => e (by simp at he; omega)), h.has x]
      simp [e]
  · rw [World.cell?_of_block (a := ⟨N + 2, 0, none⟩) (low (N + 2) (by omega) (by omega) (by omega))]; exact h.s0
  · exact World.cell?_setCell_same' w4 _ v' (by rw [hf3]; rfl)
  · rw [World.frozen?_setCell]; exact hz3
  · have : w4.ownsRow (N + 4) 3 1 v' (f ++ [o]).length (vals (f ++ [o])) := by simpa [vals] using hown
    exact own_same this fun g hg => e5 g (by have := (this.lt g hg).1; omega)

theorem come_skip {W f r : List Int} {o : Int} (h : ¬ (o ∉ f ∧ thingB W o = true)) : come W f (o :: r) = come W f r := by
  conv => lhs; unfold come
  rw [if_neg h]
theorem come_add {W f r : List Int} {o : Int} (h : o ∉ f ∧ thingB W o = true) : come W f (o :: r) = come W (f ++ [o]) r := by
  conv => lhs; unfold come
  rw [if_pos h]
theorem drop_cons {xs : List Int} {i : Nat} (h : i < xs.length) : xs.drop i = wd xs i :: xs.drop (i + 1) := by
  rw [List.drop_eq_getElem_cons h]; simp [wd, List.getElem?_eq_getElem h]

/-- What the closure does. -/
def ComeAns (W : List Int) (b cap bm N : Nat) (f : List Int) (w : World) (e : Ending) (w' : World) : Prop :=
  e = .returned (.tuple #[]) ∧ (∃ vf D, Come W b cap bm N f vf D w') ∧ Below N w w'

theorem comeTo_none (W : List Int) (b cap bm N : Nat) (f : List Int) (vf : Value) (D : DataW Unit) (rad : Option Addr) (rc : Nat) (w : World) (hC : Come W b cap bm N f vf D w) :
    Calls Try.prog 41 #[.slice rad 0 rc, .pointer (some ⟨N + 2, 0, none⟩), .pointer (some ⟨N, 0, none⟩), .pointer (some ⟨N + 3, 0, none⟩)] w (ComeAns W b cap bm N f w) := by
  go_enter Try.func41, Try.ntmps41
  go_wp2
  refine wp_loop_rounds 1 ?_
  rw [rounds_succ]
  go_wp2
  go_end0
  exact ⟨rfl, ⟨vf, D, hC⟩, Below.refl _ _⟩

set_option maxHeartbeats 4000000 in
theorem comeTo_some (W refs : List Int) (b cap bm N : Nat) (f : List Int) (vf : Value) (D : DataW Unit) (rb ro rc : Nat) (w : World) (hC : Come W b cap bm N f vf D w) (hr : Row w rb ro refs) (h0 : 0 < refs.length) (hrb : rb < N ∨ N + 4 ≤ rb) (hne : vf.ownBlock ≠ some rb) (hl : f.length + refs.length ≤ 100000) :
    Calls Try.prog 41 #[.slice (some ⟨rb, ro, none⟩) refs.length rc, .pointer (some ⟨N + 2, 0, none⟩), .pointer (some ⟨N, 0, none⟩), .pointer (some ⟨N + 3, 0, none⟩)] w (ComeAns W b cap bm N (come W f refs) w) := by
  generalize hF : come W f refs = F
  have HF : Hid (come W f refs = F) := hF
  clear hF
  go_enter Try.func41, Try.ntmps41
  go_wp2
  go_loopw [11] (fun s wr => ∃ (i : Nat) (f' : List Int) (vf' : Value) (D' : DataW Unit), s = .int .i64 i ∧ i ≤ refs.length ∧ Hid (F = come W f' (refs.drop i)) ∧ f'.length ≤ f.length + i ∧ Come W b cap bm N f' vf' D' wr ∧ Below N w wr ∧ Row wr rb ro refs ∧ vf'.ownBlock ≠ some rb) (fun s _ => refs.length - (intOf s).toNat)
  case atStart => exact ⟨0, f, vf, D, rfl, Nat.zero_le _, HF.out.symm, by omega, hC, Below.refl _ _, hr, hne⟩
  case round =>
    clear hC hr hne
    obtain ⟨i, f', vf', D', rfl, hi, hck, hfl, hC, hB, hr, hne⟩ := hrel
    by_cases hlt : i < refs.length
    · have hci := hr.cell i hlt
      have hwf := hr.wf i
      have hrl := hr.lt
      have hsz := hC.size
      have c0 := hC.s0
      have c1 := hC.v0
      have c2 := hC.v1
      have hn2 : N + 2 < _ := Nat.lt_of_lt_of_le (show N + 2 < N + 4 by omega) hsz
      have hn0 : N < _ := Nat.lt_of_lt_of_le (show N < N + 4 by omega) hsz
      have hck' : F = come W f' (wd refs i :: refs.drop (i + 1)) := by have := hck.out; rwa [drop_cons hlt] at this
      clear hck
      by_cases hin : wd refs i ∈ f'
      · have hhas : Go.Maps.has D' (.int .i64 (wd refs i)) = true := by rw [hC.has]; exact List.contains_iff_mem.2 hin
        have Hk : Hid (F = come W f' (refs.drop (i + 1))) := by rw [come_skip (fun h => h.1 hin)] at hck'; exact hck'
        clear hck' hin
        go_wp2_with (at_lookup; refine wpList_lookup_own_unit _ rfl _ _ 73 rfl 3 74 key3 tySet (zeroUnit _) (N + 1) f'.length D' rfl hC.set _ _ rfl (keyOf_int_mk ty3 hwf) ?_)
        go_roundw
        case rel => exact ⟨i + 1, f', vf', D', by first | rfl | simp, by omega, Hk, by omega, hC.below ((Below.refl _ _).alloc (Nat.le_refl _) _), hB.alloc (by omega) _, hr.alloc _, hne⟩
        case measure => simp [intOf]; omega
      · have hhas : Go.Maps.has D' (.int .i64 (wd refs i)) = false := by
          rw [hC.has, Bool.eq_false_iff]; exact fun h => hin (List.contains_iff_mem.1 h)
        cases ht : thingB W (wd refs i) with
        | false =>
          have Hk : Hid (F = come W f' (refs.drop (i + 1))) := by rw [come_skip (fun h => by rw [ht] at h; cases h.2)] at hck'; exact hck'
          clear hck' hin
          go_wp2_with (first | (at_lookup; refine wpList_lookup_own_unit _ rfl _ _ 73 rfl 3 74 key3 tySet (zeroUnit _) (N + 1) f'.length D' rfl hC.set _ _ rfl (keyOf_int_mk ty3 hwf) ?_) | (go_at_call 42; refine (has_any W b cap bm _ _ (hC.view.alloc _)).mono ?_; rintro e w2 ⟨rfl, hb2⟩))
          have hb2' := below_call hb2
          go_roundw
          case rel => exact ⟨i + 1, f', vf', D', by first | rfl | simp, by omega, Hk, by omega, hC.below hb2', hB.trans (hb2'.mono (by omega)), hr.same hb2', hne⟩
          case measure => simp [intOf]; omega
        | true =>
          have Hk : Hid (F = come W (f' ++ [wd refs i]) (refs.drop (i + 1))) := by rw [come_add ⟨hin, ht⟩] at hck'; exact hck'
          clear hck' hin
          go_wp2_with (first | (at_lookup; refine wpList_lookup_own_unit _ rfl _ _ 73 rfl 3 74 key3 tySet (zeroUnit _) (N + 1) f'.length D' rfl hC.set _ _ rfl (keyOf_int_mk ty3 hwf) ?_) | (go_at_call 42; refine (has_any W b cap bm _ _ (hC.view.alloc _)).mono ?_; rintro e w2 ⟨rfl, hb2⟩; have hC2 := hC.below (below_call hb2); have d0 := hC2.s0; have hs2 := hC2.size; have hm2 : N + 2 < w2.heap.size := (by omega)) | (at_mapUpdate; refine wpList_mapUpdate_own _ rfl _ _ _ 73 rfl 3 74 key3 tySet _ (N + 1) f'.length D' rfl hC2.set (by unfold maxLen; omega) _ _ _ rfl rfl (keyOf_int_mk ty3 hwf) (.agg []) [] unitElem_mk ?_; intro w3 hm3 hg3; have hs3 := hg3.size; have e3 : w3.cell? ⟨N + 3, 0, none⟩ = some vf' := ((World.cell?_of_block (a := ⟨N + 3, 0, none⟩) (hg3.block (N + 3) (by omega) (fun e => by injection e with e; omega))).trans hC2.f0); have own3 : w3.ownsRow (N + 4) 3 1 vf' f'.length (vals f') := own_same hC2.own (fun g hg => hg3.block g (hC2.own.lt g hg).2 (fun e => by injection e with e; have := (hC2.own.lt g hg).1; omega))) | (at_builtin; refine wpList_append_where rfl (.tmp 31) (.tmp 33) rfl (N + 4) f'.length 1 vf' (.int .i64 (wd refs i)) (vals f') rfl (own3.alloc _) ⟨w3.heap.size, 0, none⟩ rfl (cell_one_new _ _ _) rfl (by omega) (by simp; omega) ?_; intro v' w4 hown4 hg4 hw4; obtain ⟨g5, c5, hv5⟩ := own_slice hown4; subst hv5; have hs4 := hg4.size; have e4 : w4.cell? ⟨N + 3, 0, none⟩ = some vf' := ((World.cell?_of_block (a := ⟨N + 3, 0, none⟩) ((hg4.block (N + 3) (by simp; omega) (fun e => by have := (hC2.own.lt _ e.symm).1; omega)).trans (Below.heap_alloc _ _ _ (by omega)))).trans e3); have z4 : w4.frozen? ⟨N + 3, 0, none⟩ = false := ((World.frozen?_of_block (a := ⟨N + 3, 0, none⟩) (((hg4.block (N + 3) (by simp; omega) (fun e => by have := (hC2.own.lt _ e.symm).1; omega)).trans (Below.heap_alloc _ _ _ (by omega))).trans (hg3.block (N + 3) (by omega) (fun e => by injection e with e; omega)))).trans hC2.fz)))
          have hb2' := below_call hb2
          obtain ⟨hC5, hB5, hkey, hs5⟩ := hC2.more hm3 hg3 hown4 hg4
          have hr2 := hr.same hb2'
          have hr2l := hr2.lt
          have hr5 := hr2.block (hkey rb (by omega) (by omega) (by omega) hne) hs5
          go_roundw
          case rel => exact ⟨i + 1, f' ++ [wd refs i], _, _, by first | rfl | simp, by omega, Hk, by simp; omega, hC5, (hB.trans (hb2'.mono (by omega))).trans hB5, hr5, fun e => by rcases hw4 with h | h; exact hne (h.symm.trans e); rw [h] at e; injection e with e; simp at e; omega⟩
          case measure => simp [intOf]; omega
    · have H : Hid (F = f') := by
        have := hck.out
        rw [List.drop_eq_nil_of_le (by omega)] at this; exact this
      clear hck
      go_wp2_with fail
      go_end0
      have e := H.out
      subst e
      exact ⟨rfl, ⟨vf', D', hC⟩, hB⟩

end Go.Proofs.Ythdhaokjibfjdaa

/- reach.Leads: what who reaches a thing comes to from there. -/
namespace Go.Proofs.Ythdhaokjibfjdaa
open Go.RowKit

/-- Numbers in memory of their own. -/
def NumsAns (B : Nat) (ys : List Int) (e : Ending) (w : World) : Prop := ∃ g c, e = .returned (sl g ys.length c) ∧ B ≤ g ∧ w.ownsRow 0 3 1 (sl g ys.length c) ys.length (vals ys)

theorem leads_else (c h f : Int) (ad : Option Addr) (n cc : Nat) (w : World) (hf : f ≠ 0) :
    Calls Try.prog 43 #[thingV c h f (.slice ad n cc)] w fun e w' => NumsAns w.heap.size [c] e w' ∧ Below w.heap.size w w' := by
  have hb : (f == 0) = false := by simpa using hf
  clear hf
  go_enter Try.func43, Try.ntmps43
  go_wp2
  go_ret
  exact ⟨⟨w.heap.size + 1, 1, rfl, by omega, by have := own_one (w.alloc (.cells #[.int .i64 c, .int .i64 h, .int .i64 f, .slice ad n cc] 79)) (.int .i64 c); simpa using this⟩, ((Below.refl _ _).alloc (Nat.le_refl _) _).alloc (by simp) _⟩

set_option maxHeartbeats 1000000 in
theorem leads_none (c h : Int) (ad : Option Addr) (cc : Nat) (w : World) :
    Calls Try.prog 43 #[thingV c h 0 (.slice ad 0 cc)] w fun e w' => NumsAns w.heap.size [c] e w' ∧ Below w.heap.size w w' := by
  have hown := own_one (w.alloc (.cells #[.int .i64 c, .int .i64 h, .int .i64 0, .slice ad 0 cc] 79)) (.int .i64 c)
  cases ad with
  | some a =>
    go_enter Try.func43, Try.ntmps43
    go_wp2
    go_ret
    exact ⟨⟨w.heap.size + 1, 1, rfl, by omega, by simpa using hown⟩, ((Below.refl _ _).alloc (Nat.le_refl _) _).alloc (by simp) _⟩
  | none =>
    go_enter Try.func43, Try.ntmps43
    go_wp2
    go_ret
    exact ⟨⟨w.heap.size + 1, 1, rfl, by omega, by simpa using hown⟩, ((Below.refl _ _).alloc (Nat.le_refl _) _).alloc (by simp) _⟩

theorem news_own {w : World} {g c : Nat} {xs : List Int} (h : w.ownsRow 0 3 1 (sl g xs.length c) xs.length (vals xs)) : ∀ j u, (vals xs)[j]? = some u → w.cell? ((⟨g, 0, none⟩ : Addr).add j) = some u := h.cells (g := g) rfl

set_option maxHeartbeats 1000000 in
theorem leads_some (c h : Int) (xs : List Int) (g cc : Nat) (w : World) (hg : w.ownsRow 0 3 1 (sl g xs.length cc) xs.length (vals xs)) (hl : xs.length ≤ 2000) :
    Calls Try.prog 43 #[thingV c h 0 (sl g xs.length cc)] w fun e w' => NumsAns w.heap.size (c :: xs) e w' ∧ Below w.heap.size w w' := by
  obtain ⟨i0, hi, hz0, hz1, hz2⟩ := info_parts info3
  have hown := own_mono' (own_one (w.alloc (.cells #[.int .i64 c, .int .i64 h, .int .i64 0, sl g xs.length cc] 79)) (.int .i64 c)) (B := w.heap.size + 1) (by simp)
  have hown' : ((w.alloc (.cells #[.int .i64 c, .int .i64 h, .int .i64 0, sl g xs.length cc] 79)).alloc (.cells #[.int .i64 c] 3)).ownsRow (w.heap.size + 1) 3 1 (sl (w.heap.size + 1) 1 1) 1 [.int .i64 c] := by simpa using hown
  clear hown
  have hnews := news_own (w := (w.alloc (.cells #[.int .i64 c, .int .i64 h, .int .i64 0, sl g xs.length cc] 79)).alloc (.cells #[.int .i64 c] 3)) (hg.alloc _ |>.alloc _)
  go_enter Try.func43, Try.ntmps43
  go_wp2_with (at_builtin; refine wpList_append_own _ rfl (.tmp 10) (.tmp 12) 22 rfl (w.heap.size + 1) 3 i0 (.int .i64 0) 1 8 ty30 hi hz0 hz1 hz2 rfl (by decide) (sl (w.heap.size + 1) 1 1) 1 [.int .i64 c] rfl hown' ⟨g, 0, none⟩ xs.length cc (vals xs) rfl (by simp) hnews (ints_oneCell .i64 xs) (by unfold maxLen; omega) (by omega) (by simp) ?_; intro v' w3 hown3 hgrow3 hnil3; obtain ⟨g3, c3, hv3, hg3, hown4⟩ := own_shape hown3 (fun e => by have := (hnil3.1 e).1; cases this); subst hv3)
  go_ret
  refine ⟨⟨g3, c3, by simp [Nat.add_comm], by omega, by simpa [vals, Nat.add_comm] using hown4⟩, ?_⟩
  exact (((Below.refl _ _).alloc (Nat.le_refl _) _).alloc (by simp) _).grown hgrow3 (by simp; omega) (fun k hk => by simp [Value.ownBlock] at hk; omega)

theorem leads_any (W : List Int) (p B : Nat) (v : Value) (w : World) (hs : SlotsOwn B (slotsOf W p) v w) (hl : (slotsOf W p).length ≤ 2000) :
    Calls Try.prog 43 #[thingV (wd W p) (wd W (p + 1)) (formAt W p) v] w fun e w' => NumsAns w.heap.size (leadsAt W p) e w' ∧ Below w.heap.size w w' := by
  obtain ⟨ad, cc, rfl, hs⟩ := hs
  by_cases hf : formAt W p = 0
  · have e : leadsAt W p = wd W p :: slotsOf W p := by unfold leadsAt slotsOf; rw [if_pos hf]
    rw [hf, e]
    by_cases h0 : 0 < (slotsOf W p).length
    · obtain ⟨g, rfl, _, hown⟩ := hs h0
      exact leads_some _ _ _ _ _ _ hown hl
    · have e0 : slotsOf W p = [] := List.eq_nil_of_length_eq_zero (by omega)
      rw [e0]; exact leads_none _ _ _ _ _
  · have e : leadsAt W p = [wd W p] := by unfold leadsAt; rw [if_neg hf]
    rw [e]; exact leads_else _ _ _ _ _ _ _ hf

theorem own_form {w : World} {B n : Nat} {v : Value} {xs : List Value} (h : w.ownsRow B 3 1 v n xs) : ∃ ad c, v = .slice ad n c := by
  rcases h.2 with ⟨rfl, rfl⟩ | ⟨g, cap, cur, rfl, _⟩
  · exact ⟨none, 0, rfl⟩
  · exact ⟨_, _, rfl⟩

theorem leads_wf {W : List Int} {p : Nat} (h : ∀ k, (Lit.int .i64 (wd W k)).wf = true) (k : Nat) : (Lit.int .i64 (wd (leadsAt W p) k)).wf = true := by
  have h0 : (Lit.int .i64 0).wf = true := by decide
  by_cases hk : k < (leadsAt W p).length
  · have hm := wd_mem hk
    generalize wd (leadsAt W p) k = x at hm ⊢
    unfold leadsAt at hm
    rcases List.mem_cons.1 hm with e | hm
    · rw [e]; exact h p
    · split at hm
      · obtain ⟨j, hj, e⟩ := List.getElem_of_mem (List.mem_of_mem_drop (List.mem_of_mem_take hm))
        have : wd W j = W[j] := by unfold wd; rw [List.getD_eq_getElem?_getD, List.getElem?_eq_getElem hj]; rfl
        rw [e] at this
        rw [← this]; exact h j
      · cases hm
  · have : wd (leadsAt W p) k = 0 := by
      unfold wd; rw [List.getD_eq_getElem?_getD, List.getElem?_eq_none (by omega)]; rfl
    rw [this]; exact h0
theorem leads_length {W : List Int} {p : Nat} : (leadsAt W p).length ≤ W.length + 1 := by
  unfold leadsAt
  split
  · simp [List.length_take, List.length_drop]; omega
  · simp
theorem leads_pos {W : List Int} {p : Nat} : 0 < (leadsAt W p).length := by simp [leadsAt]

end Go.Proofs.Ythdhaokjibfjdaa

/- reach.From: the references of all things that are reached, rising. -/
namespace Go.Proofs.Ythdhaokjibfjdaa
open Go.RowKit

/-- slices.Sort of a row of one's own. -/
theorem sort_any (zs : List Int) (B : Nat) (v : Value) (w : World) (hown : w.ownsRow B 3 1 v zs.length (vals zs)) (hl : zs.length ≤ 100000) :
    Calls Try.prog 45 #[v] w fun e w' => e = .returned (.tuple #[]) ∧ w'.ownsRow B 3 1 v zs.length (vals (zs.mergeSort fun x y => decide (x ≤ y))) ∧ w.grownBy w' v.ownBlock := by
  rcases hown.2 with ⟨rfl, h0⟩ | ⟨g, cap, cur, rfl, hg, hh, h1, h2, h3, h4⟩
  · have e0 : zs = [] := List.eq_nil_of_length_eq_zero h0
    subst e0
    refine (Try.slices_Sort_int_none none 0 w).mono fun e w' hp => ⟨hp.1, ?_, ?_⟩
    · rw [hp.2]; simpa using hown
    · rw [hp.2]; exact World.grownBy.refl _ _
  · have hH : Go.Sort.Holds (Value.int .i64) w g 0 zs.toArray := holds_of_blockI hh (by have := h4; rw [Nat.mul_one] at this; exact this)
    refine (Try.slices_Sort_int g 0 cap zs w hH (own_lt (own_mono (Nat.zero_le _) hown)) (by omega)).mono fun e w' hp => ⟨hp.1, ?_, ?_⟩
    · obtain ⟨n, os, hw⟩ := hp.2
      rw [hw]
      exact ownsRow_sortedI (List.length_mergeSort ..) hg hh h1 h2 h3
    · obtain ⟨n, os, hw⟩ := hp.2
      rw [hw]; exact grownBy_sortedI _

/-- The closure, whatever refs are. -/
theorem comeTo_any (W refs : List Int) (b cap bm N : Nat) (f : List Int) (vf : Value) (D : DataW Unit) (rad : Option Addr) (rc : Nat) (w : World) (hC : Come W b cap bm N f vf D w)
    (hr : 0 < refs.length → ∃ rb ro, rad = some ⟨rb, ro, none⟩ ∧ Row w rb ro refs ∧ (rb < N ∨ N + 4 ≤ rb) ∧ vf.ownBlock ≠ some rb) (hl : f.length + refs.length ≤ 100000) :
    Calls Try.prog 41 #[.slice rad refs.length rc, .pointer (some ⟨N + 2, 0, none⟩), .pointer (some ⟨N, 0, none⟩), .pointer (some ⟨N + 3, 0, none⟩)] w (ComeAns W b cap bm N (come W f refs) w) := by
  by_cases h0 : 0 < refs.length
  · obtain ⟨rb, ro, rfl, hrow, h1, h2⟩ := hr h0
    exact comeTo_some W refs b cap bm N f vf D rb ro rc w hC hrow h0 h1 h2 hl
  · have e0 : refs = [] := List.eq_nil_of_length_eq_zero (by omega)
    subst e0
    exact comeTo_none W b cap bm N f vf D rad rc w hC

theorem come_start (W : List Int) (b cap bm : Nat) (w : World) (hv : IsView w b cap bm W) :
    Come W b cap bm w.heap.size [] (.slice none 0 0) (.map []) ((((w.alloc (.cells #[sl b W.length cap, .map (some bm)] 46)).alloc (.map #[] 0)).alloc (.cells #[.map (some (w.heap.size + 1))] 73)).alloc (.cells #[.slice none 0 0] 22)) := by
  have hlb := hv.lt
  have hlm := hv.begun.lt
  refine ⟨(((hv.alloc _).alloc _).alloc _).alloc _, hlb, hlm, ?_, ?_, ?_, fun o => rfl, ?_, ?_, ?_, World.ownsRow_nil _ _ _ _, by simp⟩
  · rw [cell_past _ (by simp; omega), cell_past _ (by simp; omega), cell_past _ (by simp)]; simp
  · rw [cell_past _ (by simp; omega), cell_past _ (by simp; omega), cell_past _ (by simp)]; simp
  · have := World.ownsMap_made (H := Unit) (w.alloc (.cells #[sl b W.length cap, .map (some bm)] 46)) Try.prog 3 (unitElem (H := Unit))
    have h2 : ((w.alloc (.cells #[sl b W.length cap, .map (some bm)] 46)).alloc (.map #[] 0)).ownsMap Try.prog 3 (unitElem (H := Unit)) (w.heap.size + 1) 0 (.map []) := by simpa using this
    exact ownsMap_below (ownsMap_below h2 ((Below.refl _ _).alloc (Nat.le_refl _) _) (by simp)) ((Below.refl _ _).alloc (Nat.le_refl _) _) (by simp <;> omega)
  · rw [cell_past _ (by simp), cell_at2 (by simp)]; rfl
  · rw [cell_at2 (by simp)]; rfl
  · rw [frozen_at2 (by simp)]

set_option maxHeartbeats 4000000 in
theorem from_wide (W roots : List Int) (b cap bm : Nat) (rad : Option Addr) (rc : Nat) (w : World) (hv : IsView w b cap bm W) (hroots : RootsAt rad roots w) (hu : unfit W 2 = none) (hl : W.length ≤ 2000) (hrl : roots.length ≤ 50000) :
    Calls Try.prog 20 #[viewV b W.length cap bm, .slice rad roots.length rc] w fun e w' => OwnedAny w.heap.size (reachList W roots) e w' ∧ Below w.heap.size w w' := by
  have hmm := @run_makeMap Try.prog
  have HO : Hid (RootsAt rad roots w) := hroots
  have hst := come_start W b cap bm w hv
  clear hroots
  go_enter Try.func20, Try.ntmps20
  go_wp2_with (go_at_call 41; refine (comeTo_any W roots b cap bm w.heap.size [] (.slice none 0 0) (.map []) rad rc _ hst (fun h0 => let ⟨rb, ro, e, r⟩ := HO.out h0; ⟨rb, ro, e, (((r.alloc _).alloc _).alloc _).alloc _, Or.inl r.lt, by simp [Value.ownBlock]⟩) (by simp; omega)).mono ?_; rintro e w1 ⟨rfl, ⟨vf1, D1, hC1⟩, hB1⟩)
  have hBw : Below w.heap.size w w1 := ((((((Below.refl _ _).alloc (Nat.le_refl _) _).alloc (by simp) _).alloc (by simp; omega) _).alloc (by simp; omega) _).trans hB1)
  go_loopw [8] (fun s wr => ∃ (n : Nat) (f : List Int) (vf : Value) (D : DataW Unit), s = .int .i64 n ∧ Along W roots f n ∧ Come W b cap bm w.heap.size f vf D wr ∧ Below w.heap.size w wr) (fun s _ => W.length + 1 - (intOf s).toNat)
  case atStart => exact ⟨0, _, vf1, D1, rfl, along_start W roots, hC1, hBw⟩
  case round =>
    clear hst hC1 hB1 hBw
    rename_i wr
    obtain ⟨n, f, vf, D, rfl, hA, hC, hB⟩ := hrel
    have hfl := hA.short
    have hnl := hA.le
    have hsz := hC.size
    have c3 := hC.f0
    have hn3 : w.heap.size + 3 < wr.heap.size := by omega
    obtain ⟨ad, cf, hvf⟩ := own_form hC.own
    subst hvf
    by_cases hlt : n < f.length
    · obtain ⟨p, hp, hmem, _, _⟩ := thing_ref (hA.all _ (wd_mem hlt)).thing
      have ho := ref_thing hl hmem
      obtain ⟨g, cg, hsh, hge, hown0⟩ := own_shape hC.own (fun e => by injection e with _ h0 _; omega)
      simp only [Value.slice.injEq, true_and] at hsh
      obtain ⟨rfl, rfl⟩ := hsh
      have hgl := own_lt hown0
      have hcn := own_cell hown0 hlt
      rw [hp] at hcn
      have HA : Hid (Along W roots (come W f (leadsAt W p)) (n + 1)) := by
        have := hA.next hlt
        rwa [hp, show (2 * (p : Int) / 2).toNat = p by omega] at this
      have c0 := hC.v0
      have c1 := hC.v1
      have hn0 : w.heap.size < wr.heap.size := by omega
      have hii : (n : Int) < (f.length : Int) := by omega
      have hsl : (slotsOf W p).length ≤ 2000 := by unfold slotsOf; rw [List.length_take, List.length_drop]; omega
      clear hA hp
      go_upto_region 8 with fail
      go_region_with (first | (go_at_call 44; refine (vlook_any W b cap bm p _ hC.view.drew hu hl ho hmem).mono ?_; rintro e w2 ⟨⟨v2, rfl, hs2⟩, hb2⟩) | (go_at_call 43; refine (leads_any W p _ v2 _ hs2 hsl).mono ?_; rintro e w3 ⟨⟨g3, c3', rfl, hg3, hown3⟩, hb3⟩) | (go_at_call 41; have hb13 : Below wr.heap.size wr w3 := ((Below.refl _ _).drew.trans hb2).trans (hb3.mono ((Below.refl wr.heap.size wr).drew.trans hb2).size); have hlw := leads_length (W := W) (p := p); refine (comeTo_some W (leadsAt W p) b cap bm w.heap.size f (sl g f.length cf) D g3 0 c3' _ (hC.below hb13) ⟨own_lt hown3, fun k hk => by rw [Nat.zero_add]; exact own_cell hown3 hk, leads_wf hC.view.wf⟩ leads_pos (Or.inr (by have := ((Below.refl wr.heap.size wr).drew.trans hb2).size; omega)) (fun e => by simp [Value.ownBlock] at e; have := ((Below.refl wr.heap.size wr).drew.trans hb2).size; omega) (by omega)).mono ?_; rintro e w4 ⟨rfl, hC4, hB4⟩))
      all_goals
        obtain ⟨vf', D', hC'⟩ := hC4
        go_wp2_with fail
        go_roundw
        case rel => exact ⟨n + 1, _, vf', D', by first | rfl | simp, HA.out, hC', hB.trans ((hb13.mono (by omega)).trans hB4)⟩
        case measure => simp [intOf]; omega
    · have hdone := hA.done (by omega)
      have hsort := sorted_reach hA.once hdone
      have HS : Hid (f.mergeSort (fun x y => decide (x ≤ y)) = reachList W roots) := hsort
      have hlen : (reachList W roots).length = f.length := by rw [← hsort, List.length_mergeSort]
      have HL : Hid ((reachList W roots).length = f.length) := hlen
      clear hsort hlen hdone
      go_wp2_with (go_at_call 45; refine (sort_any f (w.heap.size + 4) _ _ hC.own (by omega)).mono ?_; rintro e w2 ⟨rfl, hown2, hg2⟩; have hs2 := hg2.size; have d3 : w2.cell? ⟨w.heap.size + 3, 0, none⟩ = some (.slice ad f.length cf) := ((World.cell?_of_block (a := ⟨w.heap.size + 3, 0, none⟩) (hg2.block (w.heap.size + 3) (by omega) (fun e => by have := (hC.own.lt _ e.symm).1; omega))).trans c3))
      go_ret
      refine ⟨⟨ad, cf, by rw [HL.out]; rfl, ?_⟩, ?_⟩
      · have := own_mono (Nat.le_add_right _ 4) hown2
        rw [HS.out] at this
        rw [HL.out]; exact this
      · exact hB.grown hg2 (by omega) (fun k hk => by have := (hC.own.lt k hk).1; omega)
theorem from_any (W roots : List Int) (b cap bm : Nat) (rad : Option Addr) (rc : Nat) (w : World) (hv : IsView w b cap bm W) (hroots : RootsAt rad roots w) (hu : unfit W 2 = none) (hl : W.length ≤ 2000) (hrl : roots.length ≤ 5000) :
    Calls Try.prog 20 #[viewV b W.length cap bm, .slice rad roots.length rc] w fun e w' => OwnedAny w.heap.size (reachList W roots) e w' ∧ Below w.heap.size w w' :=
  from_wide W roots b cap bm rad rc w hv hroots hu hl (by omega)

end Go.Proofs.Ythdhaokjibfjdaa

/- Maps of numbers by numbers. -/
namespace Go.Proofs.Ythdhaokjibfjdaa
open Go.RowKit
open Go.Maps (Keyed keyOf_int_mk)

/-- A map of numbers by numbers in memory of its own. -/
def IntMap (w : World) (bm top : Nat) (f : Int → Option Int) : Prop :=
  ∃ (n : Nat) (D : DataW Unit), w.ownsMap Try.prog 3 (plainElem Try.prog 3) bm n D ∧ n ≤ top ∧
    (∀ o : Int, Go.Maps.has D (.int .i64 o) = (f o).isSome) ∧ (∀ (o x : Int), f o = some x → D.atKey (.int .i64 o) (.lit (.int .i64 0)) = .lit (.int .i64 x))
theorem IntMap.lt {w : World} {bm top : Nat} {f : Int → Option Int} (h : IntMap w bm top f) : bm < w.heap.size := by obtain ⟨n, D, ho, _⟩ := h; exact ho.lt
theorem IntMap.below {w w' : World} {bm top B : Nat} {f : Int → Option Int} (h : IntMap w bm top f) (hb : Below B w w') (hB : bm < B) : IntMap w' bm top f := by
  obtain ⟨n, D, ho, r⟩ := h; exact ⟨n, D, ownsMap_below ho hb hB, r⟩
theorem IntMap.new (w : World) : IntMap (w.alloc (.map #[] 0)) w.heap.size 0 (fun _ => none) :=
  ⟨0, .map [], World.ownsMap_made (H := Unit) w Try.prog 3 (plainElem Try.prog 3), Nat.le_refl _, fun _ => rfl, fun _ _ h => by cases h⟩
theorem IntMap.put {w' : World} {bm n top : Nat} {f : Int → Option Int} {D : DataW Unit} {o x : Int} {w : World} (hD : w.ownsMap Try.prog 3 (plainElem Try.prog 3) bm n D) (hn : n ≤ top)
    (hh : ∀ o : Int, Go.Maps.has D (.int .i64 o) = (f o).isSome) (ha : ∀ (o x : Int), f o = some x → D.atKey (.int .i64 o) (.lit (.int .i64 0)) = .lit (.int .i64 x))
    (ho : w'.ownsMap Try.prog 3 (plainElem Try.prog 3) bm (n + 1) (D.put (.int .i64 o) (.lit (.int .i64 x)))) : IntMap w' bm (top + 1) (fun k => if k = o then some x else f k) := by
  have hM := hD.isMap
  refine ⟨n + 1, _, ho, by omega, fun k => ?_, fun k y hk => ?_⟩
  · by_cases e : k = o
    · subst e
      rw [Go.Maps.has_put_same hM (show WideAt.IsKeyLit (.int .i64 _) from trivial)]; simp
    · rw [Go.Maps.has_put_other (fun h => e (by simp at h; omega)), hh k]
      simp [e]
  · by_cases e : k = o
    · subst e
      rw [Go.Maps.atKey_put_same hM (show WideAt.IsKeyLit (.int .i64 _) from trivial)]
      simp at hk; rw [hk]
    · rw [Go.Maps.atKey_put_other (fun h => e (by simp at h; omega))]
      exact ha k y (by simpa [e] using hk)

end Go.Proofs.Ythdhaokjibfjdaa
