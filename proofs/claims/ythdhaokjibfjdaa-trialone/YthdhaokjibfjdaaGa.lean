/- Several texts in one. -/
import Derived.Test.YthdhaokjibfjdaaLookX
import Derived.Test.YthdhaokjibfjdaaGrowX
import Derived.Test.YthdhaokjibfjdaaCheckX
import Derived.Test.YthdhaokjibfjdaaGh
import Derived.Deep.CutRange
import Derived.Deep.DeepCutAuto
import Derived.Deep.RegionLaw
/- heap/lay.go: a thing as words. -/
namespace Go.Proofs.Ythdhaokjibfjdaa
open Go.RowKit

theorem shape_nat : ∀ m, m < 61 → ∀ f, f < 3 → bits BinOp.or IntKind.i64 (((m : Nat) : Int) * 4) ((f : Nat) : Int) = 4 * (m : Int) + f := by decide
theorem shape_bits {m : Nat} {fo : Int} (hm : m ≤ 60) (h0 : 0 ≤ fo) (h2 : fo ≤ 2) : bits BinOp.or IntKind.i64 (IntKind.i64.wrap ((m : Int) * 4)) fo = 4 * (m : Int) + fo := by
  obtain ⟨f, rfl⟩ := Int.eq_ofNat_of_zero_le h0
  rw [wrap_id (by omega) (by omega)]
  exact shape_nat m (by omega) f (by omega)
theorem shape_plain {m : Nat} {fo : Int} (hm : m ≤ 60) (h0 : 0 ≤ fo) (h2 : fo ≤ 2) : bits BinOp.or IntKind.i64 ((m : Int) * 4) fo = 4 * (m : Int) + fo := by
  obtain ⟨f, rfl⟩ := Int.eq_ofNat_of_zero_le h0
  exact shape_nat m (by omega) f (by omega)
theorem own_three (w : World) (x y z : Value) : (w.alloc (.cells #[x, y, z] 3)).ownsRow w.heap.size 3 1 (sl w.heap.size 3 3) 3 [x, y, z] :=
  ⟨rfl, Or.inr ⟨w.heap.size, 3, #[x, y, z], rfl, Nat.le_refl _, heap_alloc_new w _, Nat.le_refl _, by decide, rfl, rfl⟩⟩
theorem news_at {w : World} {g c : Nat} {xs : List Int} (h : w.ownsRow 0 3 1 (sl g xs.length c) xs.length (vals xs)) : ∀ j u, (vals xs)[j]? = some u → w.cell? ((⟨g, 0, none⟩ : Addr).add j) = some u := h.cells (g := g) rfl

set_option maxHeartbeats 1000000 in
theorem laid_none (c h f : Int) (ad : Option Addr) (cc : Nat) (w : World) (hf : 0 ≤ f ∧ f ≤ 2) :
    Calls Try.prog 79 #[thingV c h f (.slice ad 0 cc)] w fun e w' => Owned w.heap.size [c, h, f] e w' ∧ Below w.heap.size w w' := by
  have hsh0 : bits BinOp.or IntKind.i64 0 f = f := by have := shape_nat 0 (by omega) f.toNat (by omega); simpa [Int.toNat_of_nonneg hf.1] using this
  have hown := own_mono (Nat.zero_le _) (own_three (w.alloc (.cells #[.int .i64 c, .int .i64 h, .int .i64 f, .slice ad 0 cc] 79)) (.int .i64 c) (.int .i64 h) (.int .i64 f))
  cases ad with
  | some a =>
    go_enter Try.func79, Try.ntmps79
    go_wp2
    go_ret
    exact ⟨⟨w.heap.size + 1, 3, rfl, by omega, by simpa using hown⟩, ((Below.refl _ _).alloc (Nat.le_refl _) _).alloc (by simp) _⟩
  | none =>
    go_enter Try.func79, Try.ntmps79
    go_wp2
    go_ret
    exact ⟨⟨w.heap.size + 1, 3, rfl, by omega, by simpa using hown⟩, ((Below.refl _ _).alloc (Nat.le_refl _) _).alloc (by simp) _⟩

set_option maxHeartbeats 1000000 in
theorem laid_some (c h f : Int) (xs : List Int) (g cc : Nat) (w : World) (hg : w.ownsRow 0 3 1 (sl g xs.length cc) xs.length (vals xs)) (hl : xs.length ≤ 60) (hf : 0 ≤ f ∧ f ≤ 2) :
    Calls Try.prog 79 #[thingV c h f (sl g xs.length cc)] w fun e w' => Owned w.heap.size (c :: h :: (4 * (xs.length : Int) + f) :: xs) e w' ∧ Below w.heap.size w w' := by
  obtain ⟨i0, hi, hz0, hz1, hz2⟩ := info_parts info3
  have hsh := shape_plain (m := xs.length) (fo := f) hl hf.1 hf.2
  have hown := own_three (w.alloc (.cells #[.int .i64 c, .int .i64 h, .int .i64 f, sl g xs.length cc] 79)) (.int .i64 c) (.int .i64 h) (.int .i64 (4 * (xs.length : Int) + f))
  have hown' : ((w.alloc (.cells #[.int .i64 c, .int .i64 h, .int .i64 f, sl g xs.length cc] 79)).alloc (.cells #[.int .i64 c, .int .i64 h, .int .i64 (4 * (xs.length : Int) + f)] 3)).ownsRow (w.heap.size + 1) 3 1 (sl (w.heap.size + 1) 3 3) 3 [.int .i64 c, .int .i64 h, .int .i64 (4 * (xs.length : Int) + f)] := by simpa using hown
  clear hown
  have hnews := news_at (w := (w.alloc (.cells #[.int .i64 c, .int .i64 h, .int .i64 f, sl g xs.length cc] 79)).alloc (.cells #[.int .i64 c, .int .i64 h, .int .i64 (4 * (xs.length : Int) + f)] 3)) (hg.alloc _ |>.alloc _)
  go_enter Try.func79, Try.ntmps79
  go_wp2_with (at_builtin; refine wpList_append_own _ rfl (.tmp 16) (.tmp 18) 22 rfl (w.heap.size + 1) 3 i0 (.int .i64 0) 1 8 ty30 hi hz0 hz1 hz2 rfl (by decide) (sl (w.heap.size + 1) 3 3) 3 [.int .i64 c, .int .i64 h, .int .i64 (4 * (xs.length : Int) + f)] rfl hown' ⟨g, 0, none⟩ xs.length cc (vals xs) rfl (by simp) hnews (ints_oneCell .i64 xs) (by unfold maxLen; omega) (by omega) (by simp) ?_; intro v' w3 hown3 hgrow3 hnil3; obtain ⟨g3, c3, hv3, hg3, hown4⟩ := own_shape hown3 (fun e => by have := (hnil3.1 e).1; cases this); subst hv3)
  go_ret
  have hln : (c :: h :: (4 * (xs.length : Int) + f) :: xs).length = 3 + xs.length := by simp; omega
  rw [Nat.add_comm] at hln
  refine ⟨⟨g3, c3, by rw [hln]; simp [Nat.add_comm], by omega, by rw [hln]; simpa [vals, Nat.add_comm] using hown4⟩, ?_⟩
  exact (((Below.refl _ _).alloc (Nat.le_refl _) _).alloc (by simp) _).grown hgrow3 (by simp; omega) (fun k hk => by simp [Value.ownBlock] at hk; omega)

theorem laid_any (c h f : Int) (xs : List Int) (B : Nat) (v : Value) (w : World) (hs : SlotsOwn B xs v w) (hl : xs.length ≤ 60) (hf : 0 ≤ f ∧ f ≤ 2) :
    Calls Try.prog 79 #[thingV c h f v] w fun e w' => Owned w.heap.size (c :: h :: (4 * (xs.length : Int) + f) :: xs) e w' ∧ Below w.heap.size w w' := by
  obtain ⟨ad, cc, rfl, hs⟩ := hs
  by_cases h0 : 0 < xs.length
  · obtain ⟨g, rfl, _, hown⟩ := hs h0
    exact laid_some _ _ _ _ _ _ _ hown hl hf
  · have e0 : xs = [] := List.eq_nil_of_length_eq_zero (by omega)
    subst e0
    have := laid_none c h f ad cc w hf
    simpa using this

end Go.Proofs.Ythdhaokjibfjdaa

/- (*View).Add, heap.New: a thing more, or what stands against it. -/
namespace Go.Proofs.Ythdhaokjibfjdaa
open Go.RowKit
open Go.Maps (Keyed keyOf_int_mk)

theorem own_set {w : World} {b cap n : Nat} {xs : List Value} (h : w.ownsRow 0 3 1 (sl b n cap) n xs) {a : Addr} (hb : b ≠ a.block) (x : Value) : (w.setCell a x).ownsRow 0 3 1 (sl b n cap) n xs :=
  own_kept h ⟨rfl, rfl, rfl, by simp [World.setCell], fun k _ hk => Below.heap_setCell _ _ _ _ (fun e => hk (by rw [e]))⟩ hb

theorem new_vals (W : List Int) (cl fo : Int) (m : Nat) : (vals (W ++ [cl, wd W 1, 4 * (m : Int) + fo]) ++ List.replicate m (Value.int .i64 0)).set 1 (.int .i64 (wd W 1 + 1)) = vals (newWords W cl fo m) := by
  simp [newWords, vals, List.map_set]
theorem own_base {w : World} {B b n cap : Nat} {xs : List Value} (h : w.ownsRow 0 3 1 (sl b n cap) n xs) (hB : B ≤ b) : w.ownsRow B 3 1 (sl b n cap) n xs := by
  obtain ⟨h1, h2⟩ := h
  refine ⟨h1, ?_⟩
  rcases h2 with ⟨h2, _⟩ | ⟨g, cap', cur, hv, _, r⟩
  · cases h2
  · have hv' := hv
    simp only [Value.slice.injEq, Option.some.injEq, Addr.mk.injEq, and_true, true_and] at hv
    obtain ⟨rfl, rfl⟩ := hv
    exact Or.inr ⟨b, cap, cur, rfl, hB, r⟩

theorem cell_one_of {w : World} {g cap n : Nat} {W t : List Int} {r : List Value} (h : w.ownsRow 0 3 1 (sl g n cap) n (vals (W ++ t) ++ r)) (h2 : 2 ≤ W.length) (hn : 2 ≤ n) : w.cell? ⟨g, 1, none⟩ = some (.int .i64 (wd W 1)) := by
  rw [h.cellAt 1 (by omega), vals, List.map_append, List.append_assoc]
  rw [List.getElem?_append_left (by simp; omega)]
  simp [wd, List.getElem?_eq_getElem (show 1 < W.length by omega)]

/-- A call of a Go function by its contract, as one step of a region that draws. -/
theorem step_call {P : Program} {ops : Array Oper} {o : Oper} {a : Act} {w : World} {K : Act → World → Prop} {Q : Exit → Act → World → Prop} {E : Prop}
    (hg : o.guard = none) (f : FuncId) (x : Operand) (t : TypeId) (hop : o.op = Op.call { callee := Callee.value (.func f), args := #[x], argTypes := #[t] })
    (v : Value) (hx : a.eval x = v) (hent : ∀ w, Sem.run P (callFunc f #[v]) w = .ok (.enter f #[v]) w) {R : Ending → World → Prop} (hC : Calls P f #[v] w R)
    (hR : ∀ e w', R e w' → ∃ u, e = .returned u ∧ K (a.put o.dst u) w') :
    if Region.wanted o (yielded ops a.tmps) = true then Oper.wp P o a w K Q else E := by
  have hw : Region.wanted o (yielded ops a.tmps) = true := by simp [Region.wanted, hg]
  rw [if_pos hw]
  subst hx
  have e : Sem.run P (execOp a.eval o) w = .ok (.enter f #[a.eval x]) w := by
    simp [execOp, hop, resolve, invoke, Deferred.ofValue, go_sem]
    have h9 := hent w
    simp [Act.eval] at h9
    exact h9
  unfold Oper.wp
  rw [e, Oper.upon_enter]
  refine hC.mono fun e w' hr => ?_
  obtain ⟨u, rfl, hk⟩ := hR e w' hr
  exact hk

/-- The words of a thing that is made. -/
def NewZ (W : List Int) (cl fo : Int) (m : Nat) (Z : List Int) : Prop := Z = [cl, wd W 1, 4 * (m : Int) + fo] ++ List.replicate m 0
theorem laid_enters (w : World) : ∀ {v : Value}, Sem.run Try.prog (callFunc 79 #[v]) w = .ok (.enter 79 #[v]) w := by intro v; kernel_rfl
theorem ownsRow_below_any {w w' : World} {base n cap b : Nat} {xs : List Value} (h : w.ownsRow base 3 1 (sl b n cap) n xs) (hb : Below w.heap.size w w') : w'.ownsRow base 3 1 (sl b n cap) n xs :=
  own_base (ownsRow_below (own_mono (Nat.zero_le _) h) hb (h.lt b rfl).2) (h.lt b rfl).1

theorem takes2_any (x : Int) (w : World) (h0 : 0 ≤ x) (h1 : x ≤ 5000) : Calls Try.prog 78 #[.int .i64 x] w fun e w' => e = .returned (.int .i64 (3 + x)) ∧ w' = w := by
  go_enter Try.func78, Try.ntmps78
  go_wp2
  go_ret
  exact ⟨rfl, rfl⟩

/-- A callee that draws nothing, in a world that has drawn already. -/
theorem quiet_one {P : Program} {f : FuncId} {args : Array Value} {w : World} {m : Nat} {v : Value}
    (h : Calls P f args (w.drewN m) fun e w' => e = .returned v ∧ w' = w.drewN m) : Calls P f args (w.drewN m) fun e w'' => e = .returned v ∧ ∃ m', w'' = w.drewN m' :=
  h.mono fun _ _ ⟨he, hm⟩ => ⟨he, m, hm⟩
abbrev addErr (e : Int) : Ending := .returned (.tuple #[.int .i64 0, .int .i64 e])
/-- A view in a box. -/
structure InBox (W : List Int) (Q b cap bm : Nat) (w : World) : Prop where
  view : IsView w b cap bm W
  q0 : w.cell? ⟨Q, 0, none⟩ = some (sl b W.length cap)
  q1 : w.cell? ⟨Q, 1, none⟩ = some (.map (some bm))
  z0 : w.frozen? ⟨Q, 0, none⟩ = false
theorem InBox.lt {W : List Int} {Q b cap bm : Nat} {w : World} (h : InBox W Q b cap bm w) : Q < w.heap.size := World.block_lt_of_cell? _ _ h.q0
theorem InBox.below {W : List Int} {Q b cap bm : Nat} {w w' : World} (h : InBox W Q b cap bm w) (hb : Below w.heap.size w w') : InBox W Q b cap bm w' :=
  ⟨h.view.same hb, by rw [hb.cell (p := ⟨Q, 0, none⟩) h.lt]; exact h.q0, by rw [hb.cell (p := ⟨Q, 1, none⟩) h.lt]; exact h.q1, by rw [hb.frozen (p := ⟨Q, 0, none⟩) h.lt]; exact h.z0⟩

theorem vadd_kind (W : List Int) (Q b cap bm : Nat) (cl fo si : Int) (w : World) (hB : InBox W Q b cap bm w) (hl2 : 2 ≤ W.length) (hc : nilB W cl = false) :
    Calls Try.prog 65 #[.pointer (some ⟨Q, 0, none⟩), .int .i64 cl, .int .i64 fo, .int .i64 si] w fun e w' => e = addErr 3 ∧ Below w.heap.size w w' := by
  have c0 := hB.q0
  have c1 := hB.q1
  have hq := hB.lt
  have hi : ¬ ((W.length : Int) < 2) := by omega
  go_enter Try.func65, Try.ntmps65
  go_wp2_with (first | (go_at_call 60; refine (isNil_any W b cap bm _ _ hB.view).mono ?_; rintro e w2 ⟨rfl, hb2⟩))
  exact bodyPost_ret (v := .tuple #[.int .i64 0, .int .i64 3]) (by simp [results, Try.results65, go_sem]) rfl ⟨rfl, hb2⟩

theorem vadd_range (W : List Int) (Q b cap bm : Nat) (cl fo si : Int) (w : World) (hB : InBox W Q b cap bm w) (hl2 : 2 ≤ W.length) (hc : nilB W cl = true) (hfs : (formB fo && sizeB si) = false) :
    Calls Try.prog 65 #[.pointer (some ⟨Q, 0, none⟩), .int .i64 cl, .int .i64 fo, .int .i64 si] w fun e w' => e = addErr 4 ∧ Below w.heap.size w w' := by
  have c0 := hB.q0
  have c1 := hB.q1
  have hq := hB.lt
  have hi : ¬ ((W.length : Int) < 2) := by omega
  have hw : formB fo = false ∨ (formB fo = true ∧ sizeB si = false) := by
    cases h1 : formB fo with
    | false => exact Or.inl rfl
    | true => rw [h1] at hfs; exact Or.inr ⟨rfl, hfs⟩
  clear hfs
  rcases hw with h1 | ⟨h1, h2⟩
  all_goals
    go_enter Try.func65, Try.ntmps65
    go_wp2_with (first | (go_at_call 60; refine (isNil_any W b cap bm _ _ hB.view).mono ?_; rintro e w2 ⟨rfl, hb2⟩) | (go_at_call 76; refine (isForm_any _ _).mono ?_; rintro e w3 ⟨rfl, hw3⟩; rw [hw3]; clear hw3 w3) | (go_at_call 77; refine (isSize_any _ _).mono ?_; rintro e w3 ⟨rfl, hw3⟩; rw [hw3]; clear hw3 w3))
    exact bodyPost_ret (v := .tuple #[.int .i64 0, .int .i64 4]) (by simp [results, Try.results65, go_sem]) rfl ⟨rfl, hb2⟩

set_option maxHeartbeats 4000000 in
theorem vadd_full (W : List Int) (Q b cap bm : Nat) (cl fo si : Int) (w : World) (hB : InBox W Q b cap bm w) (hl2 : 2 ≤ W.length) (hl : W.length ≤ 2000) (hc : nilB W cl = true) (h1 : formB fo = true) (h2 : sizeB si = true) (hfull : 2000 < (W.length : Int) + 3 + si ∨ 10000 < wd W 1) :
    Calls Try.prog 65 #[.pointer (some ⟨Q, 0, none⟩), .int .i64 cl, .int .i64 fo, .int .i64 si] w fun e w' => e = addErr 6 ∧ Below w.heap.size w w' := by
  have c0 := hB.q0
  have c1 := hB.q1
  have hq := hB.lt
  have hi : ¬ ((W.length : Int) < 2) := by omega
  have hsi : 0 ≤ si ∧ si ≤ 60 := by unfold sizeB at h2; exact of_decide_eq_true h2
  have hw : 2000 < (W.length : Int) + (3 + si) ∨ (¬ (2000 < (W.length : Int) + (3 + si)) ∧ 10000 < wd W 1) := by omega
  have hwr := wrap_id (x := (W.length : Int) + (3 + si)) (by omega) (by omega)
  clear hfull
  rcases hw with hw1 | ⟨hw1, hw2⟩
  · have hdb : decide (2000 < (W.length : Int) + (3 + si)) = true := decide_eq_true hw1
    go_enter Try.func65, Try.ntmps65
    go_wp2_with (first | (go_at_call 60; refine (isNil_any W b cap bm _ _ hB.view).mono ?_; rintro e w2 ⟨rfl, hb2⟩; have hB2 := hB.below hb2; have d0 := hB2.q0; have hq2 := hB2.lt; have hcn := hB2.view.cell (k := 1) (by omega); have hbl := hB2.view.lt) | (go_at_call 76; refine (isForm_any _ _).mono ?_; rintro e w3 ⟨rfl, hw3⟩; rw [hw3]; clear hw3 w3) | (go_at_call 77; refine (isSize_any _ _).mono ?_; rintro e w3 ⟨rfl, hw3⟩; rw [hw3]; clear hw3 w3))
    go_quiet ((go_at_call 78; exact quiet_one (takes2_any _ _ hsi.1 (by omega))))
    go_wp2_with fail
    exact bodyPost_ret (v := .tuple #[.int .i64 0, .int .i64 6]) (by simp [results, Try.results65, go_sem]) rfl ⟨rfl, below_drewN hb2 _⟩
  · have hdb : decide (2000 < (W.length : Int) + (3 + si)) = false := decide_eq_false hw1
    have hdc : decide (10000 < wd W 1) = true := decide_eq_true hw2
    have hl1 : (1 : Int) < (W.length : Int) := by omega
    go_enter Try.func65, Try.ntmps65
    go_wp2_with (first | (go_at_call 60; refine (isNil_any W b cap bm _ _ hB.view).mono ?_; rintro e w2 ⟨rfl, hb2⟩; have hB2 := hB.below hb2; have d0 := hB2.q0; have hq2 := hB2.lt; have hcn := hB2.view.cell (k := 1) (by omega); have hbl := hB2.view.lt) | (go_at_call 76; refine (isForm_any _ _).mono ?_; rintro e w3 ⟨rfl, hw3⟩; rw [hw3]; clear hw3 w3) | (go_at_call 77; refine (isSize_any _ _).mono ?_; rintro e w3 ⟨rfl, hw3⟩; rw [hw3]; clear hw3 w3))
    go_quiet ((go_at_call 78; exact quiet_one (takes2_any _ _ hsi.1 (by omega))))
    go_wp2_with fail
    exact bodyPost_ret (v := .tuple #[.int .i64 0, .int .i64 6]) (by simp [results, Try.results65, go_sem]) rfl ⟨rfl, below_drewN hb2 _⟩

/-- What is kept but for three blocks. -/
def Kept3 (x y z : Nat) (w w' : World) : Prop := Below 0 w w' ∧ ∀ k, k < w.heap.size → k ≠ x → k ≠ y → k ≠ z → w'.heap[k]? = w.heap[k]?
theorem Kept3.size {x y z : Nat} {w w' : World} (h : Kept3 x y z w w') : w.heap.size ≤ w'.heap.size := h.1.size
theorem Kept3.of_below {x y z : Nat} {w w' : World} (h : Below w.heap.size w w') : Kept3 x y z w w' := ⟨h.mono (Nat.zero_le _), fun k hk _ _ _ => h.block k hk⟩
theorem Kept3.trans {x y z : Nat} {w w' w'' : World} (h : Kept3 x y z w w') (h' : Kept3 x y z w' w'') : Kept3 x y z w w'' :=
  ⟨h.1.trans h'.1, fun k hk h1 h2 h3 => (h'.2 k (Nat.lt_of_lt_of_le hk h.size) h1 h2 h3).trans (h.2 k hk h1 h2 h3)⟩
theorem Kept3.grown {x y z b : Nat} {w w' : World} (h : w.grownBy w' (some b)) (hb : b = x ∨ b = y ∨ b = z) : Kept3 x y z w w' :=
  ⟨(Below.refl 0 w).grown h (Nat.zero_le _) (fun _ _ => Nat.zero_le _), fun k hk h1 h2 h3 => h.block k hk (fun e => by injection e with e; omega)⟩
theorem Kept3.set {x y z : Nat} (w : World) (a : Addr) (v : Value) (ha : a.block = x ∨ a.block = y ∨ a.block = z) : Kept3 x y z w (w.setCell a v) :=
  ⟨(Below.refl 0 w).setCell (Nat.zero_le _) v, fun k _ h1 h2 h3 => Below.heap_setCell _ _ _ _ (by omega)⟩
theorem Kept3.set_new {x y z g : Nat} {a : Value} {j : Nat} {w w' : World} (h : Kept3 x y z w w') (hg : g = x ∨ w.heap.size ≤ g) : Kept3 x y z w (w'.setCell ⟨g, j, none⟩ a) :=
  ⟨h.1.trans ((Below.refl 0 w').setCell (Nat.zero_le _) a), fun k hk h1 h2 h3 => (Below.heap_setCell _ _ _ _ (by dsimp only; omega)).trans (h.2 k hk h1 h2 h3)⟩
theorem Kept3.trans' {x y z : Nat} {w w' w'' : World} (h : Kept3 x y z w w') (hg : w'.grownBy w'' (some y)) : Kept3 x y z w w'' := h.trans (Kept3.grown hg (Or.inr (Or.inl rfl)))
theorem Kept3.below {x y z B : Nat} {w w' : World} (h : Kept3 x y z w w') (hB : B ≤ w.heap.size) (hx : B ≤ x) (hy : B ≤ y) (hz : B ≤ z) : Below B w w' :=
  ⟨h.1.os, h.1.tape, h.1.output, h.1.size, fun k hk => h.2 k (by omega) (by omega) (by omega) (by omega)⟩
/-- append of numbers to a row of one's own that has some: where the row lies then. -/
theorem append_whereN {w : World} {ty : TypeId} {base n c m b cap : Nat} {v' : Value} {w' : World} {xs news : List Value} {ad : Addr} (hown : w.ownsRow base 3 1 (sl b n cap) n xs) (hlen : news.length = m * 1) (hx : ∀ j u, news[j]? = some u → w.cell? (ad.add j) = some u) (h1 : ∀ u ∈ news, u.oneCell' = true) (hb : n + m ≤ 1000000)
    (hr : (Builtin.append_ #[22, 22] ty #[sl b n cap, .slice (some ad) m c]).run Try.prog w = .ok v' w') : v'.ownBlock = some b ∨ v'.ownBlock = some w.heap.size := by
  obtain ⟨i, hi, hz0, hz1, hz2⟩ := info_parts info3
  by_cases hroom : n + m ≤ cap
  · obtain ⟨w2, h, _⟩ := run_append_fits (P := Try.prog) w base 22 ty 3 i 1 ty30 hi hz1 b n cap xs hown ad m c news hlen hx h1 hroom
    rw [h] at hr
    injection hr with e1 e2
    subst e1; exact Or.inl rfl
  · have h := run_append_grow (P := Try.prog) w 22 ty 3 i _ ty30 hi hz0 ⟨b, 0, none⟩ n cap xs (by rw [hown.1, hz1]) (hown.cells (g := b) rfl) ad m c news (by rw [hz1]; exact hlen) hx (by omega) (by omega) (growslice_fits (by omega) (by rw [hz2]; omega))
    rw [h] at hr
    injection hr with e1 e2
    subst e1; exact Or.inr rfl
/-- The same as one step of a region that draws. -/
theorem step_append_whereN {ops : Array Oper} {o : Oper} {a : Act} {w : World} {K : Act → World → Prop} {Q : Exit → Act → World → Prop} {E : Prop}
    (hg : o.guard = none) (s x : Operand) (hop : o.op = Op.call { callee := Callee.builtin Builtin.append, args := #[s, x], argTypes := #[22, 22] })
    (base b n cap : Nat) (xs : List Value) (hs : a.eval s = sl b n cap) (hown : w.ownsRow base 3 1 (sl b n cap) n xs)
    (ad : Addr) (m c : Nat) (news : List Value) (hx : a.eval x = .slice (some ad) m c) (hn : news.length = m * 1) (hc : ∀ j u, news[j]? = some u → w.cell? (ad.add j) = some u) (h1c : ∀ u ∈ news, u.oneCell' = true)
    (b1 : n + m ≤ 1000000) (hb : base ≤ w.heap.size)
    (hK : ∀ g' c' w', w'.ownsRow base 3 1 (sl g' (n + m) c') (n + m) (xs ++ news) → w.grownBy w' (some b) → (g' = b ∨ g' = w.heap.size) → K (a.put o.dst (sl g' (n + m) c')) w') :
    if Region.wanted o (yielded ops a.tmps) = true then Oper.wp Try.prog o a w K Q else E := by
  have hw : Region.wanted o (yielded ops a.tmps) = true := by simp [Region.wanted, hg]
  rw [if_pos hw]
  obtain ⟨i, hi, hz0, hz1, hz2⟩ := info_parts info3
  obtain ⟨v', w', hrun, r1, r2, r3⟩ := run_append_own (P := Try.prog) w base 22 o.type 3 i (.int .i64 0) 1 8 ty30 hi hz0 hz1 hz2 rfl (by decide) (sl b n cap) n xs hown ad m c news hn hc h1c (by unfold maxLen; omega) (by omega) hb
  have hwh := append_whereN hown hn hc h1c b1 hrun
  obtain ⟨g', c', hv, _, hown'⟩ := own_shape r1 (fun e => by have := (r3.1 e).1; cases this)
  subst hv
  unfold Oper.wp
  simp [execOp, hop, resolve, invoke, builtin, hs, hx, hrun, Result.andThen]
  exact hK g' c' w' r1 r2 (by simpa [Value.ownBlock] using hwh)
theorem new_wf {W M : List Int} {cl fo : Int} {m : Nat} (hM : OneMore W M cl fo m) (hw : ∀ k, (Lit.int .i64 (wd W k)).wf = true) (hc : nilB W cl = true) (hfo : 0 ≤ fo ∧ fo ≤ 2) (hm : m ≤ 60) (hh : wd W 1 ≤ 10000 ∧ 1 ≤ wd W 1) (_h2 : 2 ≤ W.length) (k : Nat) : (Lit.int .i64 (wd M k)).wf = true := by
  have h0 : (Lit.int .i64 0).wf = true := by decide
  have hcl : 0 ≤ cl ∧ cl ≤ 4000 := by
    have h3 : kindOf cl = 2 ∨ kindOf cl = 3 := by
      unfold nilB thingB at hc
      simp only [Bool.or_eq_true, Bool.and_eq_true, beq_iff_eq] at hc
      rcases hc with h | h
      · exact Or.inl h
      · exact Or.inr h.1
    unfold kindOf at h3
    split at h3
    · omega
    · split at h3
      · omega
      · split at h3
        · omega
        · omega
  by_cases hk : k < W.length
  · by_cases e : k = 1
    · subst e; rw [hM.one]
      generalize wd W 1 = x at hh ⊢
      go_wf
    · rw [hM.old k hk e]; exact hw k
  · by_cases e0 : k = W.length
    · subst e0; rw [hM.cls]; go_wf
    · by_cases e1 : k = W.length + 1
      · subst e1; rw [hM.hash]; exact hw 1
      · by_cases e2 : k = W.length + 2
        · subst e2; rw [hM.shape]; go_wf
        · by_cases e3 : k < M.length
          · have hl := hM.length
            obtain ⟨j, rfl⟩ : ∃ j, k = W.length + 3 + j := ⟨k - (W.length + 3), by omega⟩
            rw [hM.zero j (by omega)]; exact h0
          · have : wd M k = 0 := by unfold wd; rw [List.getD_eq_getElem?_getD, List.getElem?_eq_none (by omega)]; rfl
            rw [this]; exact h0
theorem InBox.neb {W : List Int} {Q b cap bm : Nat} {w : World} (h : InBox W Q b cap bm w) (h2 : 0 < W.length) : Q ≠ b := fun e => by
  have h1 := h.q0
  rw [e, h.view.cell h2] at h1
  injection h1 with h1; cases h1
theorem map_nocell {w : World} {bm : Nat} {W : List Int} {ps : List Nat} (h : Begun w bm W ps) (j : Nat) : w.cell? ⟨bm, j, none⟩ = none := by
  obtain ⟨n, D, ⟨es, clock, hb, _⟩, _⟩ := h
  simp [World.cell?, hb]
theorem InBox.nem {W : List Int} {Q b cap bm : Nat} {w : World} (h : InBox W Q b cap bm w) : Q ≠ bm := fun e => by
  have h1 := h.q0
  rw [e, map_nocell h.view.begun] at h1
  cases h1
theorem InBox.nbm {W : List Int} {Q b cap bm : Nat} {w : World} (h : InBox W Q b cap bm w) (h2 : 0 < W.length) : b ≠ bm := fun e => by
  have h1 := h.view.cell h2
  rw [e, map_nocell h.view.begun] at h1
  cases h1
theorem own_sameV {w w' : World} {base n : Nat} {v : Value} {xs : List Value} (h : w.ownsRow base 3 1 v n xs) (hb : ∀ g, v.ownBlock = some g → w'.heap[g]? = w.heap[g]?) : w'.ownsRow base 3 1 v n xs := by
  obtain ⟨h1, h2⟩ := h
  refine ⟨h1, ?_⟩
  rcases h2 with h2 | ⟨g, cap, cur, rfl, hg, hh, r⟩
  · exact Or.inl h2
  · exact Or.inr ⟨g, cap, cur, rfl, hg, by rw [hb g rfl]; exact hh, r⟩
theorem Begun.block' {w w' : World} {bm : Nat} {W : List Int} {ps : List Nat} (h : Begun w bm W ps) (e : w'.heap[bm]? = w.heap[bm]?) : Begun w' bm W ps := by
  obtain ⟨n, D, ⟨es, clock, hb0, r⟩, q⟩ := h
  exact ⟨n, D, ⟨es, clock, by rw [e]; exact hb0, r⟩, q⟩
theorem ownsMap_block {w w' : World} {H : Type} {P : Program} {k : TypeId} {R : Value → Option (DataW H × List MemPlace)} {b n : Nat} {D : DataW H} (h : w.ownsMap P k R b n D) (e : w'.heap[b]? = w.heap[b]?) : w'.ownsMap P k R b n D := by
  obtain ⟨es, clock, hb0, r⟩ := h
  exact ⟨es, clock, by rw [e]; exact hb0, r⟩
theorem vals_head (W Z : List Int) (h : 0 < W.length) : (vals W ++ vals Z)[0]? = some (.int .i64 (wd W 0)) := by
  match W, h with
  | x :: r, _ => rfl
theorem InBox.past {W : List Int} {Q b cap bm : Nat} {w w' : World} (h : InBox W Q b cap bm w) (hg : w.grownBy w' (some b)) (hn : Q ≠ b) : w'.cell? ⟨Q, 0, none⟩ = some (sl b W.length cap) ∧ w'.frozen? ⟨Q, 0, none⟩ = false ∧ Q < w'.heap.size := by
  have e : w'.heap[Q]? = w.heap[Q]? := hg.block Q h.lt (fun e => by injection e with e; exact hn (by omega))
  exact ⟨(World.cell?_of_block (a := ⟨Q, 0, none⟩) e).trans h.q0, (World.frozen?_of_block (a := ⟨Q, 0, none⟩) e).trans h.z0, Nat.lt_of_lt_of_le h.lt hg.size⟩
/-- What Add does where it makes a thing. -/
def AddAns (W : List Int) (cl fo : Int) (m Q b bm L : Nat) (w : World) (e : Ending) (w' : World) : Prop :=
  ∃ g c, e = .returned (.tuple #[.int .i64 (2 * (W.length : Int)), .int .i64 0]) ∧ InBox (newWords W cl fo m) Q g c bm w' ∧ L ≤ g ∧ Kept3 b bm Q w w' ∧ (∀ j, j ≠ 0 → w'.cell? ⟨Q, j, none⟩ = w.cell? ⟨Q, j, none⟩) ∧ (∀ j, w'.frozen? ⟨Q, j, none⟩ = w.frozen? ⟨Q, j, none⟩) ∧ (g = b ∨ w.heap.size ≤ g)

set_option maxRecDepth 20000 in
set_option maxHeartbeats 8000000 in
theorem vadd_good (W : List Int) (Q b cap bm L : Nat) (cl fo : Int) (m : Nat) (w : World) (hB : InBox W Q b cap bm w) (hL : L ≤ b) (h : (checkOf W).1 = 0) (hc : nilB W cl = true) (h1 : formB fo = true) (h2 : sizeB m = true) (hfit : (W.length : Int) + 3 + m ≤ 2000) (hh : wd W 1 ≤ 10000) :
    Calls Try.prog 65 #[.pointer (some ⟨Q, 0, none⟩), .int .i64 cl, .int .i64 fo, .int .i64 m] w (AddAns W cl fo m Q b bm L w) := by
  obtain ⟨hf, _⟩ := check_ok h
  obtain ⟨hl2, hl, _, hh1, _⟩ := front_out hf
  have hsi : (0 : Int) ≤ (m : Int) ∧ (m : Int) ≤ 60 := by unfold sizeB at h2; exact of_decide_eq_true h2
  have hfo : 0 ≤ fo ∧ fo ≤ 2 := by unfold formB at h1; exact of_decide_eq_true h1
  have H : Hid ((checkOf W).1 = 0) := h
  clear h hf
  obtain ⟨i0, hi, hz0, hz1, hz2⟩ := info_parts info3
  have hmk : ∀ w : World, (Instr.makeSlice 22 (.int .i64 (m : Int)) (.int .i64 (m : Int))).run Try.prog w = .ok (.slice (some ⟨w.heap.size, 0, none⟩) m m) (w.alloc (.cells (madeCells #[.int .i64 0] m) 3)) := fun w => by
    have := run_make (P := Try.prog) w 22 3 i0 (.int .i64 0) ty30 hi hz0 .i64 .i64 m m (by omega) (Int.le_refl _) (by rw [hz2]; omega) (by omega)
    simpa [hz1, Value.cells] using this
  have c0 := hB.q0
  have c1 := hB.q1
  have hq := hB.lt
  have hi2 : ¬ ((W.length : Int) < 2) := by omega
  have hl1 : (1 : Int) < (W.length : Int) := by omega
  have hwr := wrap_id (x := (W.length : Int) + (3 + (m : Int))) (by omega) (by omega)
  have hdb : decide (2000 < (W.length : Int) + (3 + (m : Int))) = false := decide_eq_false (by omega)
  have hdc : decide (10000 < wd W 1) = false := decide_eq_false (by omega)
  go_enter Try.func65, Try.ntmps65
  go_upto_region 7 with (first | (go_at_call 60; refine (isNil_any W b cap bm _ _ hB.view).mono ?_; rintro e w2 ⟨rfl, hb2⟩; have hB2 := hB.below hb2; have d0 := hB2.q0; have hq2 := hB2.lt; have hcn := hB2.view.cell (k := 1) (by omega); have hbl := hB2.view.lt) | (go_at_call 76; refine (isForm_any _ _).mono ?_; rintro e w3 ⟨rfl, hw3⟩; rw [hw3]; clear hw3 w3) | (go_at_call 77; refine (isSize_any _ _).mono ?_; rintro e w3 ⟨rfl, hw3⟩; rw [hw3]; clear hw3 w3))
  go_quiet ((go_at_call 78; exact quiet_one (takes2_any _ _ hsi.1 (by omega))))
  go_upto_region 10 with fail
  have hbq : Below w.heap.size w (w2.drewN nq) := below_drewN hb2 nq
  have hBq := hB.below hbq
  clear hB2 d0 hq2 hcn hbl hb2
  generalize w2.drewN nq = w3 at *
  have d0 := hBq.q0
  have d1 := hBq.q1
  have hq3 := hBq.lt
  have hcn := hBq.view.cell (k := 1) (by omega)
  have hbl := hBq.view.lt
  have hl1n : 1 < W.length := by omega
  go_cut [11] from 59 to 69 (fun s11 wx => ∃ X g, s11 = .pointer (some ⟨X, 0, none⟩) ∧ w3.heap.size ≤ X ∧ w3.heap.size ≤ g ∧ (wx.cell? ⟨X, 0, none⟩ = some (.int .i64 cl) ∧ wx.cell? ⟨X, 1, none⟩ = some (.int .i64 (wd W 1)) ∧ wx.cell? ⟨X, 2, none⟩ = some (.int .i64 fo) ∧ wx.cell? ⟨X, 3, none⟩ = some (sl g m m)) ∧ wx.ownsRow 0 3 1 (sl g m m) m (vals (List.replicate m 0)) ∧ X < wx.heap.size ∧ Below w3.heap.size w3 wx)
  case first =>
    have hmade : ∀ w' : World, (w'.alloc (.cells (madeCells #[.int .i64 0] m) 3)).ownsRow 0 3 1 (sl w'.heap.size m m) m (vals (List.replicate m 0)) := fun w' => by
      have := World.ownsRow_lit (base := 0) (e := 3) (size := 1) w' (madeCells #[.int .i64 0] m) m (Nat.zero_le _) (by unfold maxLen; omega) (by simpa using size_madeCells #[.int .i64 0] m)
      simpa [toList_madeCells_one, vals] using this
    go_region
    all_goals go_wp2_with fail
    · go_meet
      case rel =>
        refine ⟨w3.heap.size + 1, w3.heap.size, by first | rfl | simp, by omega, Nat.le_refl _, ⟨?_, ?_, ?_, ?_⟩, ((hmade w3).alloc _).drew, by simp, (((Below.refl _ _).alloc (Nat.le_refl _) _).alloc (by simp) _).drew⟩
        all_goals (show World.cell? (World.alloc _ _) _ = _; rw [cell_at2 (by simp)]; rfl)
    · go_meet
      case rel =>
        refine ⟨w3.heap.size, w3.heap.size + 1, by first | rfl | simp, Nat.le_refl _, by omega, ⟨?_, ?_, ?_, ?_⟩, ?_, by simp; omega, (((Below.refl _ _).alloc (Nat.le_refl _) _).alloc (by simp) _).drew⟩
        all_goals first | (show World.cell? (World.alloc _ _) _ = _; rw [cell_past _ (by simp), cell_at2 rfl]; rfl) | skip
        have := (hmade (w3.alloc (.cells #[.int .i64 cl, .int .i64 (wd W 1), .int .i64 fo, sl (w3.heap.size + 1) m m] 79))).drew
        simpa using this
  case rest =>
    obtain ⟨X, g, rfl, hX, hg, ⟨x0, x1, x2, x3⟩, hownS, hXl, hb3⟩ := hcut
    generalize wc = wa at *
    have hBc := hBq.below hb3
    have hb0c : Below w.heap.size w wa := hbq.trans (hb3.mono hbq.size)
    have e0 := hBc.q0
    have e1 := hBc.q1
    have hqc := hBc.lt
    clear hmk d0 d1 hcn
    have hS : SlotsOwn 0 (List.replicate m 0) (sl g m m) wa.drew := ⟨some ⟨g, 0, none⟩, m, by simp, fun _ => ⟨g, rfl, Nat.zero_le _, by simpa using hownS.drew⟩⟩
    have hLd := laid_any cl (wd W 1) fo (List.replicate m 0) 0 (sl g m m) wa.drew hS (by simp; omega) hfo
    have hl' : (cl :: wd W 1 :: (4 * ((List.replicate m (0 : Int)).length : Int) + fo) :: List.replicate m 0 = [cl, wd W 1, 4 * (m : Int) + fo] ++ List.replicate m 0) := by simp
    rw [hl'] at hLd
    clear hl'
    have hlen : ([cl, wd W 1, 4 * (m : Int) + fo] ++ List.replicate m 0).length = 3 + m := by simp; omega
    have HZ : Hid (NewZ W cl fo m ([cl, wd W 1, 4 * (m : Int) + fo] ++ List.replicate m 0)) := rfl
    have HLn : Hid (([cl, wd W 1, 4 * (m : Int) + fo] ++ List.replicate m 0).length = 3 + m) := hlen
    have hlen' : ([cl, wd W 1, 4 * (m : Int) + fo] ++ List.replicate m 0).length ≤ 63 := by omega
    clear hlen
    generalize [cl, wd W 1, 4 * (m : Int) + fo] ++ List.replicate m 0 = Z at *
    have hownW : wa.ownsRow L 3 1 (sl b W.length cap) W.length (vals W) := own_base hBc.view.own hL
    have hneb := hBc.neb (by omega)
    have hnem := hBc.nem
    have hnbm := hBc.nbm (by omega)
    have hszc := hb0c.size
    go_upto_region 11 with fail
    go_cut [] from 70 to 79 (fun wx => ∃ g c, wx.cell? ⟨Q, 0, none⟩ = some (sl g (W.length + Z.length) c) ∧ Hid (wx.ownsRow L 3 1 (sl g (W.length + Z.length) c) (W.length + Z.length) (vals (W ++ Z)) ∧ (g = b ∨ wa.heap.size ≤ g) ∧ Begun wx bm W (places W 2) ∧ Kept3 b bm Q wa wx ∧ (∀ j, j ≠ 0 → wx.cell? ⟨Q, j, none⟩ = wa.cell? ⟨Q, j, none⟩) ∧ (∀ j, wx.frozen? ⟨Q, j, none⟩ = wa.frozen? ⟨Q, j, none⟩)))
    case first =>
      go_region_law (first | (refine step_call rfl 79 (.tmp 75) 79 rfl (thingV cl (wd W 1) fo (sl g m m)) (by simp [Act.eval]) (fun w => laid_enters w) hLd ?_; rintro e w5 ⟨⟨g5, c5, rfl, hg5, hown5⟩, hb5⟩; refine ⟨_, rfl, ?_⟩; have hbc5 : Below wa.heap.size wa w5 := (Below.refl _ _).drew.trans hb5; have hB5 := hBc.below hbc5; have y0 := hB5.q0; have hownW5 := ownsRow_below_any hownW hbc5; have hn5 := news_at hown5; have z5 := hbc5.size; have hq5 := hB5.lt) | (refine step_append_whereN rfl (.tmp 74) (.tmp 76) rfl L b W.length cap (vals W) (by simp [Act.eval]) hownW5 ⟨g5, 0, none⟩ Z.length c5 (vals Z) (by simp [Act.eval]) (by simp) hn5 (ints_oneCell .i64 _) (by omega) (by omega) ?_; intro g6 c6 w6 hown7 hgrow6 hwh6; obtain ⟨f6, z6, hq6⟩ := hB5.past hgrow6 hneb))
      all_goals
        have hneg : Q ≠ g6 := fun e => by
          have h1 := hown7.cellAt 0 (by omega)
          rw [← e, f6] at h1
          rw [vals_head W Z (by omega)] at h1
          injection h1 with h1; cases h1
        go_wp2_with fail
        go_meet
        case rel =>
          have eQ : w6.heap[Q]? = wa.heap[Q]? := (hgrow6.block Q hq5 (fun e => hneb (Option.some.inj e))).trans (hbc5.block Q hqc)
          refine ⟨g6, c6, World.cell?_setCell_same' _ _ _ (by rw [f6]; rfl), own_sameV (by simpa [vals] using hown7) (fun k hk => Below.heap_setCell _ _ _ _ (by simp only [Value.ownBlock, Option.some.injEq] at hk; exact fun e => hneg (e.symm.trans hk.symm))), (by omega), hB5.view.begun.block' ((Below.heap_setCell _ _ _ _ (fun e => hnem e.symm)).trans (hgrow6.block bm hB5.view.begun.lt (fun e => hnbm (Option.some.inj e).symm))), (Kept3.of_below hbc5).trans ((Kept3.grown hgrow6 (Or.inl rfl)).trans (Kept3.set _ _ _ (Or.inr (Or.inr rfl)))), fun j hj => ?_, fun j => ?_⟩
          · rw [World.cell?_setCell_other _ _ _ _ (fun e => hj (by injection e with _ e; exact e.symm)), World.cell?_of_block (a := ⟨Q, j, none⟩) eQ]
          · rw [World.frozen?_setCell, World.frozen?_of_block (a := ⟨Q, j, none⟩) eQ]
    case rest =>
      obtain ⟨g6, c6, k0, HX⟩ := hcut
      obtain ⟨hown6, hwh, hbeg, hkept, hcl, hfr⟩ := HX.out
      have hown6' := own_mono (Nat.zero_le _) hown6
      have hg6 := (hown6.lt g6 rfl).1
      have hg6l := (hown6.lt g6 rfl).2
      have hcell4 := cell_one_of (W := W) (t := Z) (r := []) (by simpa using hown6') hl2 (by omega)
      have hfz4 := hown6'.frozenAt 1
      have k1 := (hcl 1 (by decide)).trans e1
      have hqx : Q < _ := World.block_lt_of_cell? _ _ k0
      have hngm : g6 ≠ bm := fun e => by
        rw [e, map_nocell hbeg] at hcell4; cases hcell4
      have hngq : g6 ≠ Q := fun e => by
        have h0 := hown6'.cellAt 0 (by omega)
        rw [e, k0, show vals (W ++ Z) = vals W ++ vals Z by simp [vals], vals_head W Z (by omega)] at h0
        injection h0 with h0; cases h0
      have hst := (hown6'.stored 1 (.int .i64 (wd W 1 + 1))).1
      have hnv : (vals (W ++ Z)).set 1 (.int .i64 (wd W 1 + 1)) = vals (newWords W cl fo m) := by rw [show Z = _ from HZ.out, ← new_vals]; simp [vals]
      rw [hnv] at hst
      have HW : Hid ((newWords W cl fo m).length = W.length + Z.length) := by rw [new_length, HLn.out, Nat.add_assoc]; exact rfl
      obtain ⟨n, D, hD, hDn, hDh, hDa⟩ := hbeg
      have HDh : Hid (∀ k : Nat, Go.Maps.has D (.int .i64 k) = (places W 2).contains k) := hDh
      have HDa : Hid (∀ k : Nat, k ∈ places W 2 → D.atKey (.int .i64 k) (.lit (.int .i64 0)) = .lit (.int .i64 (slotsAt W k : Nat))) := hDa
      have hpn : n ≤ 2000 := by
        have h4 := places_length (W := W) (W.length - 2) 2 (Nat.le_refl _); omega
      clear hDh hDa hnv hlen' HLn HZ
      have hwl : (Lit.int .i64 (W.length : Int)).wf = true := by go_wf
      have hwm : (Lit.int .i64 (m : Int)).wf = true := by go_wf
      go_wp2_with (at_mapUpdate; refine wpList_mapUpdate_own _ rfl _ _ _ 44 rfl 3 3 key3 ty59 (plainElem Try.prog 3) bm n D rfl (ownsMap_block hD (Below.heap_setCell _ _ _ _ (fun e => hngm e.symm))) (by unfold maxLen; omega) _ _ _ rfl rfl (keyOf_int_mk ty3 hwl) _ [] (plainElem_int ty3 hwm) ?_; intro w7 hm7 hg7)
      have eQ7 := hg7.block Q (by simpa [World.setCell] using hqx) (fun e => hnem (Option.some.inj e))
      have hkX : Kept3 b bm Q wa w7 := (hkept.set_new hwh).trans' hg7
      refine bodyPost_ret (v := .tuple #[.int .i64 (2 * (W.length : Int)), .int .i64 0]) (by simp [results, Try.results65, go_sem]) rfl ⟨g6, c6, rfl, ⟨?_, ?_, ?_, ?_⟩, hg6, (Kept3.of_below hb0c).trans hkX, fun j hj => ?_, fun j => ?_, by omega⟩
      · have hM := one_moreN W cl fo m hl2
        obtain ⟨g1, g2, g3, _⟩ := hM.places H.out hfo (by omega)
        refine ⟨?_, new_wf hM hBc.view.wf hc (by omega) (by omega) (by omega) hl2, ?_⟩
        · rw [HW.out]
          exact own_sameV hst (fun k hk => hg7.block k (by simp only [Value.ownBlock, Option.some.injEq] at hk; simpa [World.setCell, ← hk] using hg6l) (by simp only [Value.ownBlock, Option.some.injEq] at hk; exact fun e => hngm (hk.trans (Option.some.inj e))))
        · rw [g1]
          have hMp := hD.isMap
          have hu := (check_fine H.out).2.1
          refine ⟨n + 1, _, hm7, by rw [List.length_append]; simp; omega, fun k => ?_, fun k hk => ?_⟩
          · by_cases e : k = W.length
            · subst e
              rw [Go.Maps.has_put_same hMp (show WideAt.IsKeyLit (.int .i64 _) from trivial)]; simp
            · rw [Go.Maps.has_put_other (fun h => e (by simp at h; omega)), HDh.out k]
              simp [e]
          · by_cases e : k = W.length
            · subst e
              rw [Go.Maps.atKey_put_same hMp (show WideAt.IsKeyLit (.int .i64 _) from trivial), g3]
            · rcases List.mem_append.1 hk with hk | hk
              · rw [Go.Maps.atKey_put_other (fun h => e (by simp at h; omega)), HDa.out k hk]
                have hpf := place_fit hu hk
                have hfo' := (fits_out hpf.2.2.1).1
                have es : slotsAt (newWords W cl fo m) k = slotsAt W k := by unfold slotsAt; rw [hM.old (k + 2) (by omega) (by omega)]
                rw [es]
              · rw [List.mem_singleton] at hk; exact absurd hk e
      · rw [World.cell?_of_block (a := ⟨Q, 0, none⟩) eQ7, World.cell?_setCell_other _ _ _ _ (fun e => hngq (by injection e)), k0, HW.out]
      · rw [World.cell?_of_block (a := ⟨Q, 1, none⟩) eQ7, World.cell?_setCell_other _ _ _ _ (fun e => hngq (by injection e))]; exact k1
      · rw [World.frozen?_of_block (a := ⟨Q, 0, none⟩) eQ7, World.frozen?_setCell, hfr 0]; exact hBc.z0
      · rw [World.cell?_of_block (a := ⟨Q, j, none⟩) eQ7, World.cell?_setCell_other _ _ _ _ (fun e => hngq (by injection e)), hcl j hj]
        exact hb0c.cell (p := ⟨Q, j, none⟩) hq
      · rw [World.frozen?_of_block (a := ⟨Q, j, none⟩) eQ7, World.frozen?_setCell, hfr j]
        exact hb0c.frozen (p := ⟨Q, j, none⟩) hq

/-! heap.New. -/
/-- What New, Look, Put say of words: nothing, and an error. -/
abbrev newErr (e : Int) : Ending := .returned (.tuple #[.agg #[.slice none 0 0], .int .i64 0, .int .i64 e])

theorem cell_set_past {w : World} {a : Addr} {v x : Value} {o : Obj} (h : w.cell? a = some v) : ((w.setCell a x).alloc o).cell? a = some x := by
  have hlt := World.block_lt_of_cell? w a h
  rw [cell_past _ (by simpa [World.setCell] using hlt)]
  exact World.cell?_setCell_same' w a x (by rw [h]; rfl)

theorem InBox.new {W : List Int} {b cap bm : Nat} {w : World} (hv : IsView w b cap bm W) : InBox W w.heap.size b cap bm (w.alloc (.cells #[sl b W.length cap, .map (some bm)] 46)) :=
  ⟨hv.alloc _, by rw [cell_at2 rfl]; rfl, by rw [cell_at2 rfl]; rfl, by rw [frozen_at2 rfl]⟩
/-- What New answers where it makes a thing. -/
def NewAns (W' : List Int) (o : Int) (e : Ending) (w : World) : Prop := ∃ g cap, e = .returned (.tuple #[.agg #[sl g W'.length cap], .int .i64 o, .int .i64 0]) ∧ w.ownsRow 0 3 1 (sl g W'.length cap) W'.length (vals W')

end Go.Proofs.Ythdhaokjibfjdaa

/- gessoref2.New, and heaps held against each other. -/
namespace Go.Proofs.Ythdhaokjibfjdaa
open Go.RowKit

theorem nil_ways {W : List Int} {cl : Int} : (nilB W cl = true → (cl != 0) = false ∨ ((cl != 0) = true ∧ thingB W cl = true)) ∧ (nilB W cl = false → (cl != 0) = true ∧ thingB W cl = false) := by
  constructor
  · intro h
    by_cases hz : cl = 0
    · exact Or.inl (by simp [hz])
    · exact Or.inr ⟨by simpa using hz, by rw [← nil_else hz]; exact h⟩
  · intro h
    have hz : cl ≠ 0 := fun e => by rw [e] at h; cases h
    exact ⟨by simpa using hz, by rw [← nil_else hz]; exact h⟩

end Go.Proofs.Ythdhaokjibfjdaa

/- heap.New where it makes a thing. -/
namespace Go.Proofs.Ythdhaokjibfjdaa
open Go.RowKit

/-- What New answers, in a block from B on. -/
def NewFrom (W' : List Int) (o : Int) (B : Nat) (e : Ending) (w : World) : Prop := ∃ g cap, e = .returned (.tuple #[.agg #[sl g W'.length cap], .int .i64 o, .int .i64 0]) ∧ B ≤ g ∧ w.ownsRow 0 3 1 (sl g W'.length cap) W'.length (vals W')

end Go.Proofs.Ythdhaokjibfjdaa

/- gessoref2.New where it makes a thing. -/
namespace Go.Proofs.Ythdhaokjibfjdaa
open Go.RowKit

/-- The words with a thing more, k of its slots made. -/
def partWords (W : List Int) (cl fo : Int) (m k : Nat) : List Int := (W ++ [cl, wd W 1, 4 * (m : Int) + fo] ++ List.replicate k 0).set 1 (wd W 1 + 1)
theorem part_length (W : List Int) (cl fo : Int) (m k : Nat) : (partWords W cl fo m k).length = W.length + 3 + k := by
  simp [partWords]; omega
theorem part_all (W : List Int) (cl fo : Int) (m : Nat) : partWords W cl fo m m = newWords W cl fo m := by simp [partWords, newWords]
theorem part_none (W : List Int) (cl fo : Int) (m : Nat) : (vals (W ++ [cl, wd W 1, 4 * (m : Int) + fo])).set 1 (.int .i64 (wd W 1 + 1)) = vals (partWords W cl fo m 0) := by
  simp [partWords, vals, List.map_set]
theorem part_next (W : List Int) (cl fo : Int) (m k : Nat) (h2 : 2 ≤ W.length) : vals (partWords W cl fo m (k + 1)) = vals (partWords W cl fo m k) ++ [.int .i64 0] := by
  have e : partWords W cl fo m (k + 1) = partWords W cl fo m k ++ [0] := by
    unfold partWords
    rw [List.replicate_succ', ← List.append_assoc, List.set_append_left _ _ (by simp; omega)]
  rw [e]; simp [vals]

end Go.Proofs.Ythdhaokjibfjdaa
