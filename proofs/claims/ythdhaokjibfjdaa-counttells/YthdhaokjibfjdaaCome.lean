/- The closure of reach.From: who is come to. -/
import Derived.Test.YthdhaokjibfjdaaGrow
import Derived.Test.YthdhaokjibfjdaaSee2
import Derived.Test.YthdhaokjibfjdaaSeeRoots
import Derived.Test.YthdhaokjibfjdaaOwnKit
import Derived.Maps.OwnSet
namespace Go.Proofs.Ythdhaokjibfjdaa
open Go.RowKit
open Go.Maps (Keyed keyOf_int_mk)

theorem tySet : Try.prog.underlying 73 = some (.map 3 74) := by kernel_rfl
theorem zeroUnit (w : World) : (zeroValue 74).run Try.prog w = .ok (.agg #[]) w := by kernel_rfl

/-- append of one number to a row of one's own: where the row lies then. -/
theorem append_where {w : World} {ty : TypeId} {base n c : Nat} {v v' : Value} {w' : World} {xs : List Value} {ad : Addr} {x : Value} (hown : w.ownsRow base 3 1 v n xs) (hx : ∀ j u, [x][j]? = some u → w.cell? (ad.add j) = some u) (h1 : x.oneCell' = true) (hb : n ≤ 1000000)
    (hr : (Builtin.append_ #[22, 22] ty #[v, .slice (some ad) 1 c]).run Try.prog w = .ok v' w') : v'.ownBlock = v.ownBlock ∨ v'.ownBlock = some w.heap.size := by
  obtain ⟨i, hi, hz0, hz1, hz2⟩ := info_parts info3
  rcases hown.2 with ⟨rfl, rfl⟩ | ⟨g, cap, cur, rfl, hbg, hg, hnc, hcm, hcs, htake⟩
  · have h := run_append_nil (P := Try.prog) w 22 ty 3 i _ ty30 hi hz0 ad 1 c [x] (by rw [hz1]; rfl) hx (by omega) (by omega) (by rw [hz2]; omega)
    rw [h] at hr
    injection hr with e1 e2
    subst e1; exact Or.inr rfl
  · by_cases hroom : n + 1 ≤ cap
    · obtain ⟨w2, h, _⟩ := run_append_fits (P := Try.prog) w base 22 ty 3 i 1 ty30 hi hz1 g n cap xs hown ad 1 c [x] rfl hx (by intro u hu; rw [List.mem_singleton] at hu; subst hu; exact h1) hroom
      rw [h] at hr
      injection hr with e1 e2
      subst e1; exact Or.inl rfl
    · have h := run_append_grow (P := Try.prog) w 22 ty 3 i _ ty30 hi hz0 ⟨g, 0, none⟩ n cap xs (by rw [hown.1, hz1]) (hown.cells (g := g) rfl) ad 1 c [x] (by rw [hz1]; rfl) hx (by omega) (by omega) (growslice_fits (by omega) (by rw [hz2]; omega))
      rw [h] at hr
      injection hr with e1 e2
      subst e1; exact Or.inr rfl

theorem wpList_append_where {ops : Array Oper} {rest : List Oper} {o : Oper} {a : Act} {w : World} {Q : Exit → Act → World → Prop} (hgd : o.guard = none) (s x : Operand)
    (ho : o.op = .call { callee := .builtin .append, args := #[s, x], argTypes := #[22, 22] }) (base n c : Nat) (v y : Value) (xs : List Value) (hs : a.eval s = v) (hown : w.ownsRow base 3 1 v n xs)
    (ad : Addr) (hx : a.eval x = .slice (some ad) 1 c) (hc : ∀ j u, [y][j]? = some u → w.cell? (ad.add j) = some u) (h1 : y.oneCell' = true) (hb : n ≤ 1000000) (hbase : base ≤ w.heap.size)
    (h : ∀ v' w', w'.ownsRow base 3 1 v' (n + 1) (xs ++ [y]) → w.grownBy w' v.ownBlock → (v'.ownBlock = v.ownBlock ∨ v'.ownBlock = some w.heap.size) → wpList Try.prog ops Q rest (a.put o.dst v') w') : wpList Try.prog ops Q (o :: rest) a w := by
  refine wpList_plain hgd fun K' hK' => ?_
  obtain ⟨i, hi, hz0, hz1, hz2⟩ := info_parts info3
  obtain ⟨v', w', hr, r1, r2, _⟩ := run_append_own (P := Try.prog) w base 22 o.type 3 i _ 1 8 ty30 hi hz0 hz1 hz2 rfl (by decide) v n xs hown ad 1 c [y] rfl hc (by intro u hu; rw [List.mem_singleton] at hu; subst hu; exact h1) (by unfold maxLen; omega) (by omega) hbase
  have hw := append_where hown hc h1 hb hr
  unfold Oper.wp
  simp [execOp, ho, resolve, invoke, builtin, hs, hx, hr, Result.andThen]
  exact hK' _ _ (h v' w' r1 r2 hw)

theorem own_slice {w : World} {B n : Nat} {v : Value} {xs : List Value} (h : w.ownsRow B 3 1 v (n + 1) xs) : ∃ g cap, v = sl g (n + 1) cap := by
  rcases h.2 with ⟨_, h0⟩ | ⟨g, cap, cur, rfl, _⟩
  · omega
  · exact ⟨g, cap, rfl⟩

/-- What From keeps: its view (box N), who was come to (the set in block N + 1, in box N + 2; the row in box N + 3). -/
structure Come (W : List Int) (b cap bm N : Nat) (f : List Int) (vf : Value) (D : DataW Unit) (w : World) : Prop where
  view : IsView w b cap bm W
  lb : b < N
  lbm : bm < N
  v0 : w.cell? ⟨N, 0, none⟩ = some (sl b W.length cap)
  v1 : w.cell? ⟨N, 1, none⟩ = some (.map (some bm))
  set : w.ownsMap Try.prog 3 (unitElem (H := Unit)) (N + 1) f.length D
  has : ∀ o : Int, Go.Maps.has D (.int .i64 o) = f.contains o
  s0 : w.cell? ⟨N + 2, 0, none⟩ = some (.map (some (N + 1)))
  f0 : w.cell? ⟨N + 3, 0, none⟩ = some vf
  fz : w.frozen? ⟨N + 3, 0, none⟩ = false
  own : w.ownsRow (N + 4) 3 1 vf f.length (vals f)
  size : N + 4 ≤ w.heap.size

theorem Come.below {W : List Int} {b cap bm N : Nat} {f : List Int} {vf : Value} {D : DataW Unit} {w w' : World} (h : Come W b cap bm N f vf D w) (hb : Below w.heap.size w w') : Come W b cap bm N f vf D w' := by
  have hs := h.size
  refine ⟨h.view.same hb, h.lb, h.lbm, through hb h.v0 (by dsimp only; omega), through hb h.v1 (by dsimp only; omega), ownsMap_below h.set hb h.set.lt, h.has, through hb h.s0 (by dsimp only; omega), through hb h.f0 (by dsimp only; omega), throughF hb h.fz (by dsimp only; omega), own_same h.own fun g hg => hb.block g (h.own.lt g hg).2, by have := hb.size; omega⟩

/-- One more is come to. -/
theorem Come.more {W : List Int} {b cap bm N : Nat} {f : List Int} {vf v' : Value} {D : DataW Unit} {w w3 w4 : World} {o : Int} {ob : Obj} (h : Come W b cap bm N f vf D w) (hm : w3.ownsMap Try.prog 3 (unitElem (H := Unit)) (N + 1) (f.length + 1) (D.put (.int .i64 o) (.agg [])))
    (hg3 : w.grownBy w3 (some (N + 1))) (hown : w4.ownsRow (N + 4) 3 1 v' (f.length + 1) (vals f ++ [.int .i64 o])) (hg4 : (w3.alloc ob).grownBy w4 vf.ownBlock) :
    Come W b cap bm N (f ++ [o]) v' (D.put (.int .i64 o) (.agg [])) (w4.setCell ⟨N + 3, 0, none⟩ v') ∧ Below N w (w4.setCell ⟨N + 3, 0, none⟩ v') ∧
      (∀ k, k < w.heap.size → k ≠ N + 1 → k ≠ N + 3 → vf.ownBlock ≠ some k → (w4.setCell ⟨N + 3, 0, none⟩ v').heap[k]? = w.heap[k]?) ∧ w.heap.size ≤ (w4.setCell ⟨N + 3, 0, none⟩ v').heap.size := by
  have hs := h.size
  have hs3 := hg3.size
  have hs4 := hg4.size
  have hsa : (w3.alloc ob).heap.size = w3.heap.size + 1 := by simp
  have hsc : (w4.setCell ⟨N + 3, 0, none⟩ v').heap.size = w4.heap.size := by simp [World.setCell]
  have hown0 : ∀ k, vf.ownBlock = some k → N + 4 ≤ k := fun k hk => (h.own.lt k hk).1
  have e4 : ∀ k, k < w3.heap.size → vf.ownBlock ≠ some k → w4.heap[k]? = w3.heap[k]? := fun k hk hn => (hg4.block k (by omega) (fun e => hn e.symm)).trans (Below.heap_alloc _ _ _ hk)
  have e5 : ∀ k, k ≠ N + 3 → (w4.setCell ⟨N + 3, 0, none⟩ v').heap[k]? = w4.heap[k]? := fun k hk => Below.heap_setCell _ _ _ _ (by dsimp only; omega)
  have key : ∀ k, k < w.heap.size → k ≠ N + 1 → k ≠ N + 3 → vf.ownBlock ≠ some k → (w4.setCell ⟨N + 3, 0, none⟩ v').heap[k]? = w.heap[k]? := fun k h1 h2 h3 h4 => by
    rw [e5 k h3, e4 k (by omega) h4]; exact hg3.block k h1 (fun e => h2 (by injection e))
  have low : ∀ k, k < N + 4 → k ≠ N + 1 → k ≠ N + 3 → (w4.setCell ⟨N + 3, 0, none⟩ v').heap[k]? = w.heap[k]? := fun k h1 h2 h3 => key k (by omega) h2 h3 (fun e => by have := hown0 k e; omega)
  have hB : Below N w (w4.setCell ⟨N + 3, 0, none⟩ v') :=
    ((((Below.refl N w).grown hg3 (by omega) (fun k hk => by injection hk; omega)).alloc (by omega) ob).grown hg4 (by omega) (fun k hk => by have := hown0 k hk; omega)).setCell (p := ⟨N + 3, 0, none⟩) (by dsimp only; omega) v'
  have hf3 : w4.cell? ⟨N + 3, 0, none⟩ = some vf := by
    rw [World.cell?_of_block (a := ⟨N + 3, 0, none⟩) ((e4 (N + 3) (by omega) (fun e => by have := hown0 _ e; omega)).trans (hg3.block (N + 3) (by omega) (fun e => by injection e with e; omega)))]; exact h.f0
  have hz3 : w4.frozen? ⟨N + 3, 0, none⟩ = false := by
    rw [World.frozen?_of_block (a := ⟨N + 3, 0, none⟩) ((e4 (N + 3) (by omega) (fun e => by have := hown0 _ e; omega)).trans (hg3.block (N + 3) (by omega) (fun e => by injection e with e; omega)))]; exact h.fz
  have hb1 := h.lb
  have hb2 := h.lbm
  refine ⟨⟨?_, h.lb, h.lbm, ?_, ?_, ?_, fun x => ?_, ?_, ?_, ?_, ?_, by omega⟩, hB, key, by omega⟩
  · obtain ⟨n, D', ho, r⟩ := h.view.begun
    refine ⟨own_same h.view.own fun g hg => ?_, h.view.wf, n, D', ?_, r⟩
    · have : g = b := by simp [Value.ownBlock] at hg; omega
      subst this; exact hB.block g (by omega)
    · exact ownsMap_below ho hB (by omega)
  · rw [World.cell?_of_block (a := ⟨N, 0, none⟩) (low N (by omega) (by omega) (by omega))]; exact h.v0
  · rw [World.cell?_of_block (a := ⟨N, 1, none⟩) (low N (by omega) (by omega) (by omega))]; exact h.v1
  · have : (w4.setCell ⟨N + 3, 0, none⟩ v').heap[N + 1]? = w3.heap[N + 1]? := (e5 (N + 1) (by omega)).trans (e4 (N + 1) (by omega) (fun e => by have := hown0 _ e; omega))
    obtain ⟨es, clock, hb0, r⟩ := hm
    rw [List.length_append]
    exact ⟨es, clock, by rw [this]; exact hb0, r⟩
  · by_cases e : x = o
    · subst e
      rw [Go.Maps.has_put_same h.set.isMap (show WideAt.IsKeyLit (.int .i64 _) from trivial)]; simp
    · rw [Go.Maps.has_put_other (fun he => e (by simp at he; omega)), h.has x]
      simp [e]
  · rw [World.cell?_of_block (a := ⟨N + 2, 0, none⟩) (low (N + 2) (by omega) (by omega) (by omega))]; exact h.s0
  · exact World.cell?_setCell_same' w4 _ v' (by rw [hf3]; rfl)
  · rw [World.frozen?_setCell]; exact hz3
  · have : w4.ownsRow (N + 4) 3 1 v' (f ++ [o]).length (vals (f ++ [o])) := by simpa [vals] using hown
    exact own_same this fun g hg => e5 g (by have := (this.lt g hg).1; omega)

theorem come_skip {W f r : List Int} {o : Int} (h : ¬ (o ∉ f ∧ thingB W o = true)) : come W f (o :: r) = come W f r := by
  conv => lhs; unfold come
  rw [if_neg h]
theorem come_add {W f r : List Int} {o : Int} (h : o ∉ f ∧ thingB W o = true) : come W f (o :: r) = come W (f ++ [o]) r := by
  conv => lhs; unfold come
  rw [if_pos h]
theorem drop_cons {xs : List Int} {i : Nat} (h : i < xs.length) : xs.drop i = wd xs i :: xs.drop (i + 1) := by
  rw [List.drop_eq_getElem_cons h]; simp [wd, List.getElem?_eq_getElem h]

/-- What the closure does. -/
def ComeAns (W : List Int) (b cap bm N : Nat) (f : List Int) (w : World) (e : Ending) (w' : World) : Prop :=
  e = .returned (.tuple #[]) ∧ (∃ vf D, Come W b cap bm N f vf D w') ∧ Below N w w'

theorem comeTo_none (W : List Int) (b cap bm N : Nat) (f : List Int) (vf : Value) (D : DataW Unit) (rad : Option Addr) (rc : Nat) (w : World) (hC : Come W b cap bm N f vf D w) :
    Calls Try.prog 41 #[.slice rad 0 rc, .pointer (some ⟨N + 2, 0, none⟩), .pointer (some ⟨N, 0, none⟩), .pointer (some ⟨N + 3, 0, none⟩)] w (ComeAns W b cap bm N f w) := by
  go_enter Try.func41, Try.ntmps41
  go_wp2
  refine wp_loop_rounds 1 ?_
  rw [rounds_succ]
  go_wp2
  go_end0
  exact ⟨rfl, ⟨vf, D, hC⟩, Below.refl _ _⟩

set_option maxHeartbeats 4000000 in
theorem comeTo_some (W refs : List Int) (b cap bm N : Nat) (f : List Int) (vf : Value) (D : DataW Unit) (rb ro rc : Nat) (w : World) (hC : Come W b cap bm N f vf D w) (hr : Row w rb ro refs) (h0 : 0 < refs.length) (hrb : rb < N ∨ N + 4 ≤ rb) (hne : vf.ownBlock ≠ some rb) (hl : f.length + refs.length ≤ 100000) :
    Calls Try.prog 41 #[.slice (some ⟨rb, ro, none⟩) refs.length rc, .pointer (some ⟨N + 2, 0, none⟩), .pointer (some ⟨N, 0, none⟩), .pointer (some ⟨N + 3, 0, none⟩)] w (ComeAns W b cap bm N (come W f refs) w) := by
  generalize hF : come W f refs = F
  have HF : Hid (come W f refs = F) := hF
  clear hF
  go_enter Try.func41, Try.ntmps41
  go_wp2
  go_loopw [11] (fun s wr => ∃ (i : Nat) (f' : List Int) (vf' : Value) (D' : DataW Unit), s = .int .i64 i ∧ i ≤ refs.length ∧ Hid (F = come W f' (refs.drop i)) ∧ f'.length ≤ f.length + i ∧ Come W b cap bm N f' vf' D' wr ∧ Below N w wr ∧ Row wr rb ro refs ∧ vf'.ownBlock ≠ some rb) (fun s _ => refs.length - (intOf s).toNat)
  case atStart => exact ⟨0, f, vf, D, rfl, Nat.zero_le _, HF.out.symm, by omega, hC, Below.refl _ _, hr, hne⟩
  case round =>
    clear hC hr hne
    obtain ⟨i, f', vf', D', rfl, hi, hck, hfl, hC, hB, hr, hne⟩ := hrel
    by_cases hlt : i < refs.length
    · have hci := hr.cell i hlt
      have hwf := hr.wf i
      have hrl := hr.lt
      have hsz := hC.size
      have c0 := hC.s0
      have c1 := hC.v0
      have c2 := hC.v1
      have hn2 : N + 2 < _ := Nat.lt_of_lt_of_le (show N + 2 < N + 4 by omega) hsz
      have hn0 : N < _ := Nat.lt_of_lt_of_le (show N < N + 4 by omega) hsz
      have hck' : F = come W f' (wd refs i :: refs.drop (i + 1)) := by have := hck.out; rwa [drop_cons hlt] at this
      clear hck
      by_cases hin : wd refs i ∈ f'
      · have hhas : Go.Maps.has D' (.int .i64 (wd refs i)) = true := by rw [hC.has]; exact List.contains_iff_mem.2 hin
        have Hk : Hid (F = come W f' (refs.drop (i + 1))) := by rw [come_skip (fun h => h.1 hin)] at hck'; exact hck'
        clear hck' hin
        go_wp2_with (at_lookup; refine wpList_lookup_own_unit _ rfl _ _ 73 rfl 3 74 key3 tySet (zeroUnit _) (N + 1) f'.length D' rfl hC.set _ _ rfl (keyOf_int_mk ty3 hwf) ?_)
        go_roundw
        case rel => exact ⟨i + 1, f', vf', D', by first | rfl | simp, by omega, Hk, by omega, hC.below ((Below.refl _ _).alloc (Nat.le_refl _) _), hB.alloc (by omega) _, hr.alloc _, hne⟩
        case measure => simp [intOf]; omega
      · have hhas : Go.Maps.has D' (.int .i64 (wd refs i)) = false := by
          rw [hC.has, Bool.eq_false_iff]; exact fun h => hin (List.contains_iff_mem.1 h)
        cases ht : thingB W (wd refs i) with
        | false =>
          have Hk : Hid (F = come W f' (refs.drop (i + 1))) := by rw [come_skip (fun h => by rw [ht] at h; cases h.2)] at hck'; exact hck'
          clear hck' hin
          go_wp2_with (first | (at_lookup; refine wpList_lookup_own_unit _ rfl _ _ 73 rfl 3 74 key3 tySet (zeroUnit _) (N + 1) f'.length D' rfl hC.set _ _ rfl (keyOf_int_mk ty3 hwf) ?_) | (go_at_call 42; refine (has_any W b cap bm _ _ (hC.view.alloc _)).mono ?_; rintro e w2 ⟨rfl, hb2⟩))
          have hb2' := below_call hb2
          go_roundw
          case rel => exact ⟨i + 1, f', vf', D', by first | rfl | simp, by omega, Hk, by omega, hC.below hb2', hB.trans (hb2'.mono (by omega)), hr.same hb2', hne⟩
          case measure => simp [intOf]; omega
        | true =>
          have Hk : Hid (F = come W (f' ++ [wd refs i]) (refs.drop (i + 1))) := by rw [come_add ⟨hin, ht⟩] at hck'; exact hck'
          clear hck' hin
          go_wp2_with (first | (at_lookup; refine wpList_lookup_own_unit _ rfl _ _ 73 rfl 3 74 key3 tySet (zeroUnit _) (N + 1) f'.length D' rfl hC.set _ _ rfl (keyOf_int_mk ty3 hwf) ?_) | (go_at_call 42; refine (has_any W b cap bm _ _ (hC.view.alloc _)).mono ?_; rintro e w2 ⟨rfl, hb2⟩; have hC2 := hC.below (below_call hb2); have d0 := hC2.s0; have hs2 := hC2.size; have hm2 : N + 2 < w2.heap.size := (by omega)) | (at_mapUpdate; refine wpList_mapUpdate_own _ rfl _ _ _ 73 rfl 3 74 key3 tySet _ (N + 1) f'.length D' rfl hC2.set (by unfold maxLen; omega) _ _ _ rfl rfl (keyOf_int_mk ty3 hwf) (.agg []) [] unitElem_mk ?_; intro w3 hm3 hg3; have hs3 := hg3.size; have e3 : w3.cell? ⟨N + 3, 0, none⟩ = some vf' := ((World.cell?_of_block (a := ⟨N + 3, 0, none⟩) (hg3.block (N + 3) (by omega) (fun e => by injection e with e; omega))).trans hC2.f0); have own3 : w3.ownsRow (N + 4) 3 1 vf' f'.length (vals f') := own_same hC2.own (fun g hg => hg3.block g (hC2.own.lt g hg).2 (fun e => by injection e with e; have := (hC2.own.lt g hg).1; omega))) | (at_builtin; refine wpList_append_where rfl (.tmp 31) (.tmp 33) rfl (N + 4) f'.length 1 vf' (.int .i64 (wd refs i)) (vals f') rfl (own3.alloc _) ⟨w3.heap.size, 0, none⟩ rfl (cell_one_new _ _ _) rfl (by omega) (by simp; omega) ?_; intro v' w4 hown4 hg4 hw4; obtain ⟨g5, c5, hv5⟩ := own_slice hown4; subst hv5; have hs4 := hg4.size; have e4 : w4.cell? ⟨N + 3, 0, none⟩ = some vf' := ((World.cell?_of_block (a := ⟨N + 3, 0, none⟩) ((hg4.block (N + 3) (by simp; omega) (fun e => by have := (hC2.own.lt _ e.symm).1; omega)).trans (Below.heap_alloc _ _ _ (by omega)))).trans e3); have z4 : w4.frozen? ⟨N + 3, 0, none⟩ = false := ((World.frozen?_of_block (a := ⟨N + 3, 0, none⟩) (((hg4.block (N + 3) (by simp; omega) (fun e => by have := (hC2.own.lt _ e.symm).1; omega)).trans (Below.heap_alloc _ _ _ (by omega))).trans (hg3.block (N + 3) (by omega) (fun e => by injection e with e; omega)))).trans hC2.fz)))
          have hb2' := below_call hb2
          obtain ⟨hC5, hB5, hkey, hs5⟩ := hC2.more hm3 hg3 hown4 hg4
          have hr2 := hr.same hb2'
          have hr2l := hr2.lt
          have hr5 := hr2.block (hkey rb (by omega) (by omega) (by omega) hne) hs5
          go_roundw
          case rel => exact ⟨i + 1, f' ++ [wd refs i], _, _, by first | rfl | simp, by omega, Hk, by simp; omega, hC5, (hB.trans (hb2'.mono (by omega))).trans hB5, hr5, fun e => by rcases hw4 with h | h; exact hne (h.symm.trans e); rw [h] at e; injection e with e; simp at e; omega⟩
          case measure => simp [intOf]; omega
    · have H : Hid (F = f') := by
        have := hck.out
        rw [List.drop_eq_nil_of_le (by omega)] at this; exact this
      clear hck
      go_wp2_with fail
      go_end0
      have e := H.out
      subst e
      exact ⟨rfl, ⟨vf', D', hC⟩, hB⟩

end Go.Proofs.Ythdhaokjibfjdaa
