/- (*pairing).alike: the walk. -/
import Derived.Test.YtpapaadclkdbkaaAlike1
import Derived.BigRegion
import Derived.Deep.RegionWith
namespace Go.Proofs.Ytpapaadclkdbkaa
open Go.RowKit
open Go.Maps (Keyed keyOf_int_mk)

/-- What a method of a pairing answers, and leaves. -/
def PairAns (W V : List Int) (b cap bm b' cap' bm' L m1 m2 Q : Nat) (r : Bool × Pairs) (vp : Value) (w : World) (e : Ending) (w' : World) : Prop :=
  e = .returned (.bool r.1) ∧ ∃ vp' D1 D2, Pairing W V b cap bm b' cap' bm' L m1 m2 Q r.2 vp' D1 D2 w' ∧ Moved L m1 m2 Q vp vp' w w'
/-- What a method answers that turns nothing. -/
def StillAns (r : Bool × Pairs) (w : World) (e : Ending) (w' : World) : Prop := e = .returned (.bool r.1) ∧ Below w.heap.size w w'
/-- Nobody is given twice. -/
def Once (P : Pairs) : Prop := (dom P).Nodup ∧ (img P).Nodup
theorem Pairing.big {W V : List Int} {b cap bm b' cap' bm' L m1 m2 Q : Nat} {P : Pairs} {vp : Value} {D1 D2 : DataW Unit} {w : World} (h : Pairing W V b cap bm b' cap' bm' L m1 m2 Q P vp D1 D2 w) : L ≤ w.heap.size := by have := h.mid; have := h.size; omega
theorem once_val {P : Pairs} (h : (dom P).Nodup) {x y y' : Int} (h1 : (x, y) ∈ P) (h2 : (x, y') ∈ P) : y = y' := by
  induction P with
  | nil => cases h1
  | cons a r ih =>
    obtain ⟨n1, n2⟩ := List.nodup_cons.1 (show (a.1 :: dom r).Nodup from h)
    rcases List.mem_cons.1 h1 with e1 | h1'
    · rcases List.mem_cons.1 h2 with e2 | h2'
      · have := e1.trans e2.symm; injection this
      · exact absurd (by rw [← e1]; exact mem_dom h2') n1
    · rcases List.mem_cons.1 h2 with e2 | h2'
      · exact absurd (by rw [← e2]; exact mem_dom h1') n1
      · exact ih n2 h1' h2'

theorem alike_eq {W V : List Int} {P : Pairs} {x y : Int} (h : ¬ (thingB W x = true ∧ thingB V y = true)) : alikeP W V P x y = (x == y, P) := by
  unfold alikeP; rw [if_neg h]
  by_cases e : x = y <;> simp [e]

set_option maxHeartbeats 2000000 in
theorem alike_plain (W V : List Int) (b cap bm b' cap' bm' L m1 m2 Q : Nat) (P : Pairs) (vp : Value) (D1 D2 : DataW Unit) (x y : Int) (w : World) (h : Pairing W V b cap bm b' cap' bm' L m1 m2 Q P vp D1 D2 w) (hn : ¬ (thingB W x = true ∧ thingB V y = true)) :
    Calls Try.prog 69 #[.pointer (some ⟨Q, 0, none⟩), .int .i64 x, .int .i64 y] w (StillAns (alikeP W V P x y) w) := by
  rw [alike_eq hn]
  unfold StillAns
  have c0 := h.c0
  have c1 := h.c1
  have c3 := h.c3
  have c4 := h.c4
  have hQ := h.size
  cases hx : thingB W x with
  | false =>
    clear hn
    go_enter Try.func69, Try.ntmps69
    go_wp2_with (go_at_call 31; refine (has_any W b cap bm _ _ h.view1).mono ?_; rintro e w1 ⟨rfl, hb1⟩)
    go_ret
    exact ⟨rfl, hb1⟩
  | true =>
    have hy : thingB V y = false := by
      cases e : thingB V y with
      | false => rfl
      | true => exact absurd ⟨hx, e⟩ hn
    clear hn
    go_enter Try.func69, Try.ntmps69
    go_wp2_with (first | (go_at_call_of 31 (W.length); refine (has_any W b cap bm _ _ h.view1).mono ?_; rintro e w1 ⟨rfl, hb1⟩; have d3 := through hb1 c3 hQ; have d4 := through hb1 c4 hQ; have hv2 := h.view2.same hb1) | (go_at_call_of 31 (V.length); refine (has_any V b' cap' bm' _ _ hv2).mono ?_; rintro e w2 ⟨rfl, hb2⟩))
    have hb12 := hb1.trans (hb2.mono hb1.size)
    go_ret
    exact ⟨rfl, hb12⟩

set_option maxHeartbeats 2000000 in
theorem alike_mem (W V : List Int) (b cap bm b' cap' bm' L m1 m2 Q : Nat) (P : Pairs) (vp : Value) (D1 D2 : DataW Unit) (x y : Int) (w : World) (h : Pairing W V b cap bm b' cap' bm' L m1 m2 Q P vp D1 D2 w) (hwx : (Lit.int .i64 x).wf = true) (hwy : (Lit.int .i64 y).wf = true) (htx : thingB W x = true) (hty : thingB V y = true) (hm : (x, y) ∈ P) :
    Calls Try.prog 69 #[.pointer (some ⟨Q, 0, none⟩), .int .i64 x, .int .i64 y] w (StillAns (alikeP W V P x y) w) := by
  have er : alikeP W V P x y = (true, P) := by unfold alikeP; rw [if_pos ⟨htx, hty⟩, if_pos (Or.inl (mem_dom hm)), decide_eq_true hm]
  rw [er]
  unfold StillAns
  have c0 := h.c0
  have c1 := h.c1
  have c3 := h.c3
  have c4 := h.c4
  have hQ := h.size
  have hh1 : Go.Maps.has D1 (.int .i64 x) = true := by rw [h.one.has]; exact List.contains_iff_mem.2 (mem_dom hm)
  have hh2 : Go.Maps.has D2 (.int .i64 y) = true := by rw [h.other.has]; exact List.contains_iff_mem.2 (mem_img hm)
  have H1 : Hid (∀ k, D1.atKey (.int .i64 x) (.lit (.int .i64 0)) = .lit (.int .i64 k) → k = y) := fun k hk => by rw [h.one.val x y hm] at hk; simp at hk; exact hk.symm
  have H2 : Hid (∀ k, D2.atKey (.int .i64 y) (.lit (.int .i64 0)) = .lit (.int .i64 k) → k = x) := fun k hk => by rw [h.other.val y x (mem_turn.2 hm)] at hk; simp at hk; exact hk.symm
  clear er hm
  go_enter Try.func69, Try.ntmps69
  go_wp2_with (first | (go_at_call_of 31 (W.length); refine (has_any W b cap bm _ _ h.view1).mono ?_; rintro e w1 ⟨rfl, hb1⟩; have d3 := through hb1 c3 hQ; have d4 := through hb1 c4 hQ; have hv2 := h.view2.same hb1) | (go_at_call_of 31 (V.length); refine (has_any V b' cap' bm' _ _ hv2).mono ?_; rintro e w2 ⟨rfl, hb2⟩; have h2 := h.same (hb1.trans (hb2.mono hb1.size)); have e2 := h2.c2; have e5 := h2.c5; have hQ2 := h2.size) | (at_lookup; refine wpList_lookup_own_ok_int _ rfl _ _ 52 rfl 3 3 .i64 key3 ty59 ty3 (zero3 _) m1 P.length D1 rfl h2.one.own _ _ rfl (keyOf_int_mk ty3 hwx) ?_; intro k1 hat1 hwk1; have ek := H1.out k1 hat1; subst ek; clear hat1) | (at_lookup; refine wpList_lookup_own_ok_int _ rfl _ _ 52 rfl 3 3 .i64 key3 ty59 ty3 (zero3 _) m2 P.length D2 rfl h2.other.own _ _ rfl (keyOf_int_mk ty3 hwy) ?_; intro k2 hat2 hwk2; have ek := H2.out k2 hat2; subst ek; clear hat2))
  have hb12 := hb1.trans (hb2.mono hb1.size)
  go_ret
  exact ⟨ret_bool (by simp), hb12⟩

theorem thing_pos {W : List Int} {x : Int} (h : thingB W x = true) : x ≠ 0 := fun e => by rw [e, thing_zero] at h; cases h

set_option maxHeartbeats 2000000 in
theorem alike_not (W V : List Int) (b cap bm b' cap' bm' L m1 m2 Q : Nat) (P : Pairs) (vp : Value) (D1 D2 : DataW Unit) (x y : Int) (w : World) (h : Pairing W V b cap bm b' cap' bm' L m1 m2 Q P vp D1 D2 w) (hwx : (Lit.int .i64 x).wf = true) (hwy : (Lit.int .i64 y).wf = true) (htx : thingB W x = true) (hty : thingB V y = true) (hm : (x, y) ∉ P) (hg : x ∈ dom P ∨ y ∈ img P) :
    Calls Try.prog 69 #[.pointer (some ⟨Q, 0, none⟩), .int .i64 x, .int .i64 y] w (StillAns (alikeP W V P x y) w) := by
  have er : alikeP W V P x y = (false, P) := by unfold alikeP; rw [if_pos ⟨htx, hty⟩, if_pos hg, decide_eq_false hm]
  rw [er]
  unfold StillAns
  have c0 := h.c0
  have c1 := h.c1
  have c3 := h.c3
  have c4 := h.c4
  have hQ := h.size
  have H1 : Hid (∀ k, D1.atKey (.int .i64 x) (.lit (.int .i64 0)) = .lit (.int .i64 k) → (k == y) = false) := fun k hk => by
    by_cases hd : x ∈ dom P
    · obtain ⟨y', hm'⟩ := dom_mem hd
      rw [h.one.val x y' hm'] at hk
      simp at hk
      subst hk
      rw [beq_eq_false_iff_ne]
      exact fun e => hm (e ▸ hm')
    · have : Go.Maps.has D1 (.int .i64 x) = false := by rw [h.one.has, Bool.eq_false_iff]; exact fun hc => hd (List.contains_iff_mem.1 hc)
      rw [Go.Maps.atKey_of_not_has this] at hk
      simp at hk
      subst hk
      rw [beq_eq_false_iff_ne]
      exact fun e => thing_pos hty e.symm
  have hways : Go.Maps.has D1 (.int .i64 x) = true ∨ (Go.Maps.has D1 (.int .i64 x) = false ∧ Go.Maps.has D2 (.int .i64 y) = true) := by
    by_cases hd : x ∈ dom P
    · exact Or.inl (by rw [h.one.has]; exact List.contains_iff_mem.2 hd)
    · refine Or.inr ⟨by rw [h.one.has, Bool.eq_false_iff]; exact fun hc => hd (List.contains_iff_mem.1 hc), ?_⟩
      rw [h.other.has]; exact List.contains_iff_mem.2 (hg.resolve_left hd)
  clear er hm hg
  rcases hways with hh1 | ⟨hh1, hh2⟩
  all_goals
    go_enter Try.func69, Try.ntmps69
    go_wp2_with (first | (go_at_call_of 31 (W.length); refine (has_any W b cap bm _ _ h.view1).mono ?_; rintro e w1 ⟨rfl, hb1⟩; have d3 := through hb1 c3 hQ; have d4 := through hb1 c4 hQ; have hv2 := h.view2.same hb1) | (go_at_call_of 31 (V.length); refine (has_any V b' cap' bm' _ _ hv2).mono ?_; rintro e w2 ⟨rfl, hb2⟩; have h2 := h.same (hb1.trans (hb2.mono hb1.size)); have e2 := h2.c2; have e5 := h2.c5; have hQ2 := h2.size) | (at_lookup; refine wpList_lookup_own_ok_int _ rfl _ _ 52 rfl 3 3 .i64 key3 ty59 ty3 (zero3 _) m1 P.length D1 rfl h2.one.own _ _ rfl (keyOf_int_mk ty3 hwx) ?_; intro k1 hat1 hwk1; have ek := H1.out k1 hat1; clear hat1) | (at_lookup; refine wpList_lookup_own_ok_int _ rfl _ _ 52 rfl 3 3 .i64 key3 ty59 ty3 (zero3 _) m2 P.length D2 rfl h2.other.own _ _ rfl (keyOf_int_mk ty3 hwy) ?_; intro k2 hat2 hwk2; clear hat2))
    have hb12 := hb1.trans (hb2.mono hb1.size)
    go_ret
    exact ⟨ret_bool (by simp), hb12⟩

theorem cell_two_new (w : World) (x y : Value) (t : TypeId) : ∀ j u, [x, y][j]? = some u → (w.alloc (.cells #[x, y] t)).cell? ((⟨w.heap.size, 0, none⟩ : Addr).add j) = some u := by
  intro j u hj
  have e : (⟨w.heap.size, 0, none⟩ : Addr).add j = ⟨w.heap.size, j, none⟩ := by
    unfold Addr.add
    split
    · rename_i h0; rw [h0]
    · simp
  rw [e, cell_of_row _ _ _ #[x, y] t (0, 0) (heap_alloc_new w _)]
  simpa using hj

set_option maxHeartbeats 4000000 in
theorem alike_new (W V : List Int) (b cap bm b' cap' bm' L m1 m2 Q : Nat) (P : Pairs) (vp : Value) (D1 D2 : DataW Unit) (x y : Int) (w : World) (h : Pairing W V b cap bm b' cap' bm' L m1 m2 Q P vp D1 D2 w) (hwx : (Lit.int .i64 x).wf = true) (hwy : (Lit.int .i64 y).wf = true) (htx : thingB W x = true) (hty : thingB V y = true) (hl : P.length ≤ 100000) (hx : x ∉ dom P) (hy : y ∉ img P) :
    Calls Try.prog 69 #[.pointer (some ⟨Q, 0, none⟩), .int .i64 x, .int .i64 y] w (PairAns W V b cap bm b' cap' bm' L m1 m2 Q (alikeP W V P x y) vp w) := by
  have er : alikeP W V P x y = (true, P ++ [(x, y)]) := by unfold alikeP; rw [if_pos ⟨htx, hty⟩, if_neg (fun hc => by rcases hc with hc | hc; exact hx hc; exact hy hc)]
  rw [er]
  unfold PairAns
  have c0 := h.c0
  have c1 := h.c1
  have c3 := h.c3
  have c4 := h.c4
  have hQ := h.size
  have hh1 : Go.Maps.has D1 (.int .i64 x) = false := by rw [h.one.has, Bool.eq_false_iff]; exact fun hc => hx (List.contains_iff_mem.1 hc)
  have hh2 : Go.Maps.has D2 (.int .i64 y) = false := by rw [h.other.has, Bool.eq_false_iff]; exact fun hc => hy (List.contains_iff_mem.1 hc)
  clear er
  go_enter Try.func69, Try.ntmps69
  go_upto_region 7 with (first | (go_at_call_of 31 (W.length); refine (has_any W b cap bm _ _ h.view1).mono ?_; rintro e w1 ⟨rfl, hb1⟩; have d3 := through hb1 c3 hQ; have d4 := through hb1 c4 hQ; have hv2 := h.view2.same hb1) | (go_at_call_of 31 (V.length); refine (has_any V b' cap' bm' _ _ hv2).mono ?_; rintro e w2 ⟨rfl, hb2⟩; have h2 := h.same (hb1.trans (hb2.mono hb1.size)); have e2 := h2.c2; have e5 := h2.c5; have hQ2 := h2.size) | (at_lookup; refine wpList_lookup_own_ok_int _ rfl _ _ 52 rfl 3 3 .i64 key3 ty59 ty3 (zero3 _) m1 P.length D1 rfl h2.one.own _ _ rfl (keyOf_int_mk ty3 hwx) ?_; intro k1 hat1 hwk1; clear hat1) | (at_lookup; refine wpList_lookup_own_ok_int _ rfl _ _ 52 rfl 3 3 .i64 key3 ty59 ty3 (zero3 _) m2 P.length D2 rfl h2.other.own _ _ rfl (keyOf_int_mk ty3 hwy) ?_; intro k2 hat2 hwk2; clear hat2))
  have hb12 := hb1.trans (hb2.mono hb1.size)
  have hmid := h.mid
  have dm1 := h.one.own.lt
  have dm2 := h.other.own.lt
  obtain ⟨st1, wA, wB, r1, r2, hm1, hg1⟩ := entry_new (w := w2.drew) h2.one.own (by unfold maxLen; omega) hwx hwy hh1
  have hm2' : wB.ownsMap Try.prog 3 (plainElem Try.prog 3) m2 P.length D2 := map_block h2.other.own (hg1.block m2 h2.other.own.lt (fun e => by injection e with e; omega))
  obtain ⟨st2, wC, wD, r3, r4, hm2, hg2⟩ := entry_new hm2' (by unfold maxLen; omega) hwy hwx hh2
  have hp2 : Pairing W V b cap bm b' cap' bm' L m1 m2 Q P vp D1 D2 w2.drew := h2.same (Below.refl _ _).drew
  have hs1 := hg1.size
  have hs2 := hg2.size
  have hsw : Q < w2.drew.heap.size := hp2.size
  have hQD : wD.heap[Q]? = w2.drew.heap[Q]? := (hg2.block Q (by omega) (fun e => by injection e with e; omega)).trans (hg1.block Q hsw (fun e => by injection e with e; omega))
  have f6 : wD.cell? ⟨Q, 6, none⟩ = some vp := (World.cell?_of_block (a := ⟨Q, 6, none⟩) hQD).trans hp2.c6
  have hQD' : Q < wD.heap.size := by omega
  have ownD : wD.ownsRow (max (max m1 m2) Q + 1) 100 2 vp P.length (pvals P) := own_same2 hp2.own fun g hg => (hg2.block g (by have := (hp2.own.lt g hg).2; omega) (fun e => by injection e with e; have := (hp2.own.lt g hg).1; omega)).trans (hg1.block g (hp2.own.lt g hg).2 (fun e => by injection e with e; have := (hp2.own.lt g hg).1; omega))
  have dmB := hm1.lt
  have dmD := hm2.lt
  have dMax : max (max m1 m2) Q + 1 ≤ wD.heap.size := by omega
  generalize hBase : max (max m1 m2) Q + 1 = base at ownD dMax
  have hBQ : Q < base := by omega
  go_region
  clear r1 r2 r3 r4
  go_wp2_with (at_builtin; refine wpList_append_where2 rfl (.tmp 86) (.tmp 90) rfl base P.length 1 vp (.int .i64 x) (.int .i64 y) (pvals P) rfl (ownD.alloc _) ⟨wD.heap.size, 0, none⟩ rfl (cell_two_new _ _ _ _) ⟨rfl, rfl⟩ (by omega) (by simp; omega) ?_; intro g5 k5 wE hown5 hgE hrow; have hsE := hgE.size; have hQE : wE.heap[Q]? = wD.heap[Q]? := ((hgE.block Q (by simp; omega) (fun e => by have := (hp2.own.lt _ e.symm).1; omega)).trans (Below.heap_alloc _ _ _ (by omega))); have f7 : wE.cell? ⟨Q, 6, none⟩ = some vp := (World.cell?_of_block (a := ⟨Q, 6, none⟩) hQE).trans f6; have z7 : wE.frozen? ⟨Q, 6, none⟩ = false := (World.frozen?_of_block (a := ⟨Q, 6, none⟩) (hQE.trans hQD)).trans hp2.fz)
  rw [← hBase] at hown5
  obtain ⟨hP, hM⟩ := hp2.more hx hy hm1 hg1 hm2 hg2 hown5 hgE hrow
  go_ret
  have hb0 : Below w.heap.size w w2.drew := hb12.trans (Below.refl _ _).drew
  exact ⟨rfl, _, _, _, hP, (Moved.same hb0 h.big).trans hM⟩

/-- alike, where nobody is given anew. -/
theorem alike_still (W V : List Int) (b cap bm b' cap' bm' L m1 m2 Q : Nat) (P : Pairs) (vp : Value) (D1 D2 : DataW Unit) (x y : Int) (w : World) (h : Pairing W V b cap bm b' cap' bm' L m1 m2 Q P vp D1 D2 w) (hwx : (Lit.int .i64 x).wf = true) (hwy : (Lit.int .i64 y).wf = true) (hs : (alikeP W V P x y).2 = P) :
    Calls Try.prog 69 #[.pointer (some ⟨Q, 0, none⟩), .int .i64 x, .int .i64 y] w (StillAns (alikeP W V P x y) w) := by
  by_cases ht : thingB W x = true ∧ thingB V y = true
  · by_cases hm : (x, y) ∈ P
    · exact alike_mem W V b cap bm b' cap' bm' L m1 m2 Q P vp D1 D2 x y w h hwx hwy ht.1 ht.2 hm
    · by_cases hg : x ∈ dom P ∨ y ∈ img P
      · exact alike_not W V b cap bm b' cap' bm' L m1 m2 Q P vp D1 D2 x y w h hwx hwy ht.1 ht.2 hm hg
      · exfalso
        unfold alikeP at hs
        rw [if_pos ht, if_neg hg] at hs
        have := congrArg List.length hs
        simp at this
  · exact alike_plain W V b cap bm b' cap' bm' L m1 m2 Q P vp D1 D2 x y w h ht
/-- alike, whatever is asked. -/
theorem alike_any (W V : List Int) (b cap bm b' cap' bm' L m1 m2 Q : Nat) (P : Pairs) (vp : Value) (D1 D2 : DataW Unit) (x y : Int) (w : World) (h : Pairing W V b cap bm b' cap' bm' L m1 m2 Q P vp D1 D2 w) (hwx : (Lit.int .i64 x).wf = true) (hwy : (Lit.int .i64 y).wf = true) (hl : P.length ≤ 100000) :
    Calls Try.prog 69 #[.pointer (some ⟨Q, 0, none⟩), .int .i64 x, .int .i64 y] w (PairAns W V b cap bm b' cap' bm' L m1 m2 Q (alikeP W V P x y) vp w) := by
  have still : (alikeP W V P x y).2 = P → Calls Try.prog 69 #[.pointer (some ⟨Q, 0, none⟩), .int .i64 x, .int .i64 y] w (PairAns W V b cap bm b' cap' bm' L m1 m2 Q (alikeP W V P x y) vp w) := fun hs => by
    refine (alike_still W V b cap bm b' cap' bm' L m1 m2 Q P vp D1 D2 x y w h hwx hwy hs).mono fun e w' hp => ⟨hp.1, vp, D1, D2, ?_, Moved.same hp.2 h.big⟩
    rw [hs]; exact h.same hp.2
  by_cases ht : thingB W x = true ∧ thingB V y = true
  · by_cases hg : x ∈ dom P ∨ y ∈ img P
    · exact still (by unfold alikeP; rw [if_pos ht, if_pos hg])
    · exact alike_new W V b cap bm b' cap' bm' L m1 m2 Q P vp D1 D2 x y w h hwx hwy ht.1 ht.2 hl (fun hc => hg (Or.inl hc)) (fun hc => hg (Or.inr hc))
  · exact still (by unfold alikeP; rw [if_neg ht])

end Go.Proofs.Ytpapaadclkdbkaa
