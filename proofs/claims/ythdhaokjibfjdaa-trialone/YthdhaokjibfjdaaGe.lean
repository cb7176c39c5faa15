/- Several texts in one. -/
import Derived.Test.YthdhaokjibfjdaaGi
import Derived.Test.YthdhaokjibfjdaaRef18aX
import Derived.Test.YthdhaokjibfjdaaGc
import Derived.Test.YthdhaokjibfjdaaGa
import Derived.Test.YthdhaokjibfjdaaGb
/- Package tri: colours by references. No Go in sight. -/
namespace Go.Proofs.Ythdhaokjibfjdaa

/-- The colour of a thing, by its reference. -/
def colF (W C : List Int) (o : Int) : Option Int := if thingB W o = true then some (wd C (pl2 o)) else none
theorem col_yes {W C : List Int} {o : Int} (h : thingB W o = true) : colF W C o = some (wd C (pl2 o)) := if_pos h
theorem col_no {W C : List Int} {o : Int} (h : thingB W o = false) : colF W C o = none := by unfold colF; rw [h]; rfl
theorem thing_eq {W : List Int} {o k : Int} (ho : thingB W o = true) (hk : thingB W k = true) (e : pl2 o = pl2 k) : o = k := by
  rw [(thing_at ho).2, (thing_at hk).2, e]
theorem col_shade_yes {W C : List Int} {o : Int} (ht : thingB W o = true) (h0 : wd C (pl2 o) = 0) (hl : pl2 o < C.length) : (fun k => if k = o then some 1 else colF W C k) = colF W (shadeC C o) := by
  funext k
  have e : shadeC C o = C.set (pl2 o) 1 := by unfold shadeC; rw [if_pos ⟨thing_kind ht, h0⟩]
  rw [e]
  by_cases hk : k = o
  · subst hk
    rw [if_pos rfl, col_yes ht, wd_set_same hl]
  · rw [if_neg hk]
    cases ht' : thingB W k with
    | false => rw [col_no ht', col_no ht']
    | true => rw [col_yes ht', col_yes ht', wd_set_other (fun e => hk (thing_eq ht' ht e.symm))]
theorem col_shade_no {W C : List Int} {o : Int} (h : thingB W o = true → wd C (pl2 o) ≠ 0) : colF W (shadeC C o) = colF W C := by
  funext k
  cases ht' : thingB W k with
  | false => rw [col_no ht', col_no ht']
  | true =>
    rw [col_yes ht', col_yes ht']
    rcases shade_cases C o (pl2 k) with e | ⟨e0, _, hk, e⟩
    · rw [e]
    · exfalso
      have hok := kind3 hk
      have ho : o = k := by
        rw [(thing_at ht').2, ← e]; unfold pl2; omega
      subst ho
      exact h ht' e0
theorem col_black {W C : List Int} {p : Nat} (hl : W.length ≤ 2000) (hp : p ∈ places W 2) (hc : p < C.length) : (fun k => if k = 2 * (p : Int) then some 2 else colF W C k) = colF W (C.set p 2) := by
  funext k
  by_cases hk : k = 2 * (p : Int)
  · subst hk
    rw [if_pos rfl, col_yes (ref_thing hl hp), pl2_two, wd_set_same hc]
  · rw [if_neg hk]
    cases ht' : thingB W k with
    | false => rw [col_no ht', col_no ht']
    | true => rw [col_yes ht', col_yes ht', wd_set_other (fun e => hk (by rw [(thing_at ht').2, e]))]
theorem shade_set {C : List Int} {p : Nat} {o : Int} (h : wd C p ≠ 0) : shadeC (C.set p 2) o = (shadeC C o).set p 2 := by
  by_cases hl : p < C.length
  · unfold shadeC
    by_cases e : pl2 o = p
    · rw [e, wd_set_same hl, if_neg (fun x => by cases x.2), if_neg (fun x => h x.2)]
    · rw [wd_set_other (fun x => e x.symm)]
      split
      · rw [List.set_comm _ _ (fun x => e x.symm)]
      · rfl
  · rw [List.set_eq_of_length_le (by omega), List.set_eq_of_length_le (by rw [shade_length]; omega)]
theorem shadeL_set : ∀ (l C : List Int) (p : Nat), wd C p ≠ 0 → shadeL (C.set p 2) l = (shadeL C l).set p 2
  | [], _, _, _ => rfl
  | o :: r, C, p, h => by
    show shadeL (shadeC (C.set p 2) o) r = (shadeL (shadeC C o) r).set p 2
    rw [shade_set h, shadeL_set r (shadeC C o) p]
    rcases shade_cases C o p with e | ⟨e, _⟩
    · rw [e]; exact h
    · exact absurd e h
/-- Those of a colour. -/
def ofCol (W C : List Int) (c : Int) : List Nat := (places W 2).filter fun p => wd C p == c
theorem tscan_none {W C : List Int} (h : ofCol W C 1 = []) : scanC W C = C := by
  have e : (places W 2).find? (fun p => wd C p == 1) = none := by
    rw [← List.head?_filter]; show (ofCol W C 1).head? = none; rw [h]; rfl
  unfold scanC; rw [e]
theorem tscan_some {W C : List Int} {p : Nat} {r : List Nat} (h : ofCol W C 1 = p :: r) : p ∈ places W 2 ∧ wd C p = 1 ∧ scanC W C = (shadeL C (leadsAt W p)).set p 2 := by
  have hm : p ∈ ofCol W C 1 := by rw [h]; exact List.mem_cons_self ..
  obtain ⟨h1, h2⟩ := List.mem_filter.1 hm
  have h3 : wd C p = 1 := by simpa using h2
  have e : (places W 2).find? (fun p => wd C p == 1) = some p := by
    rw [← List.head?_filter]; show (ofCol W C 1).head? = some p; rw [h]; rfl
  refine ⟨h1, h3, ?_⟩
  unfold scanC; rw [e]
  exact shadeL_set _ _ _ (by rw [h3]; decide)
theorem of_length (W C : List Int) (c : Int) : (ofCol W C c).length ≤ (places W 2).length := List.length_filter_le ..
theorem done_is (W R C : List Int) : doneT ⟨W, R, C⟩ = decide ((ofCol W C 1).length = 0) := by
  rw [Bool.eq_iff_iff, decide_eq_true_iff]
  unfold doneT ofCol
  rw [List.all_eq_true, List.length_eq_zero_iff, List.filter_eq_nil_iff]
  constructor
  · intro h p hp; have := h p hp; simpa using this
  · intro h p hp; have := h p hp; simpa using this
theorem freed_yes {s : Tri} (h : doneT s = true) : freedT s = (ofCol s.W s.C 0).map (fun p : Nat => 2 * (p : Int)) := by unfold freedT; rw [if_pos h]; rfl
theorem freed_no {s : Tri} (h : doneT s = false) : freedT s = [] := by unfold freedT; rw [if_neg (by rw [h]; decide)]
theorem col_put {W C : List Int} {p k : Nat} {what : Int} (h : (checkOf W).1 = 0) (hp : p ∈ places W 2) (hk : k < slotsAt W p) (hs : standB W (formAt W p) what = true) : colF (W.set (p + 3 + k) what) C = colF W C := by
  funext o
  unfold colF thingB beginB
  rw [(put_keeps h hp hk hs).1]
theorem col_new {W C : List Int} {fo : Int} {m n : Nat} (h : (checkOf W).1 = 0) (hfo : 0 ≤ fo ∧ fo ≤ 2) (hm : m ≤ 60) (hfit : W.length + 3 + m ≤ 2000) (hn : W.length < n) (hC : C.length ≤ n) :
    (fun k => if k = 2 * (W.length : Int) then some 2 else colF W C k) = colF (newWords W 0 fo m) ((padC C n).set W.length 2) := by
  have h2 : 2 ≤ W.length := (front_out (check_fine h).1).1
  have hM := one_moreN W 0 fo m h2
  obtain ⟨g1, _, _, _⟩ := hM.places h hfo hm
  have hl : W.length < (padC C n).length := by rw [pad_length hC]; exact hn
  funext k
  by_cases hk : k = 2 * (W.length : Int)
  · subst hk
    have ht : thingB (newWords W 0 fo m) (2 * (W.length : Int)) = true := by
      refine ref_thing ?_ ?_
      · rw [new_length]; omega
      · rw [g1]; simp
    rw [if_pos rfl, col_yes ht, pl2_two, wd_set_same hl]
  · rw [if_neg hk]
    cases ht : thingB W k with
    | true =>
      have ht2 : thingB (newWords W 0 fo m) k = true := thing_mono (fun q hq => by rw [g1]; exact List.mem_append_left _ hq) ht
      have := (place_ge (thing_at ht).1).2
      rw [col_yes ht, col_yes ht2, wd_set_other (by omega), pad_at]
    | false =>
      have ht2 : thingB (newWords W 0 fo m) k = false := by
        rw [Bool.eq_false_iff]
        intro hx
        obtain ⟨hm1, e⟩ := thing_at hx
        rw [g1] at hm1
        rcases List.mem_append.1 hm1 with hm1 | hm1
        · rw [e, ref_thing (by omega) hm1] at ht; cases ht
        · rw [List.mem_singleton] at hm1; rw [hm1] at e; exact hk e
      rw [col_no ht, col_no ht2]
theorem mem_refs {W : List Int} (hl : W.length ≤ 2000) {o : Int} : (∃ p ∈ places W 2, o = 2 * (p : Int)) ↔ thingB W o = true :=
  ⟨fun ⟨p, hp, e⟩ => by rw [e]; exact ref_thing hl hp, fun h => ⟨pl2 o, (thing_at h).1, (thing_at h).2⟩⟩
/-- White are those. -/
def whiteF (ps : List Nat) (o : Int) : Option Int := if o ∈ ps.map (fun p : Nat => 2 * (p : Int)) then some 0 else none
theorem white_nil : whiteF [] = fun _ => none := by funext o; rfl
theorem white_snoc (ps : List Nat) (p : Nat) : (fun k => if k = 2 * (p : Int) then some 0 else whiteF ps k) = whiteF (ps ++ [p]) := by
  funext k
  unfold whiteF
  rw [List.map_append]
  by_cases hk : k = 2 * (p : Int)
  · rw [if_pos hk, if_pos (by rw [hk]; simp)]
  · rw [if_neg hk]
    by_cases hm : k ∈ ps.map (fun p : Nat => 2 * (p : Int))
    · rw [if_pos hm, if_pos (List.mem_append_left _ hm)]
    · rw [if_neg hm, if_neg (fun h => (List.mem_append.1 h).elim hm (fun h => hk (by simpa using h)))]
theorem white_all {W : List Int} (hl : W.length ≤ 2000) (n : Nat) : whiteF (places W 2) = colF W (List.replicate n 0) := by
  funext o
  unfold whiteF
  have hz : wd (List.replicate n (0 : Int)) (pl2 o) = 0 := by
    unfold wd; rw [List.getD_eq_getElem?_getD, List.getElem?_replicate]; split <;> rfl
  cases ht : thingB W o with
  | true =>
    obtain ⟨p, hp, e⟩ := (mem_refs hl).2 ht
    rw [col_yes ht, hz, if_pos (List.mem_map.2 ⟨p, hp, e.symm⟩)]
  | false =>
    rw [col_no ht, if_neg (fun h => by obtain ⟨p, hp, e⟩ := List.mem_map.1 h; rw [(mem_refs hl).1 ⟨p, hp, e.symm⟩] at ht; cases ht)]
/-- What somebody has at hand. -/
theorem now_thing {W R : List Int} {o : Int} (h : thingB W o = true) : nowB W R o = (reachList W R).contains o := by
  rw [Bool.eq_iff_iff, nowB_iff, List.contains_iff_mem, mem_reach]
  exact ⟨fun x => x.2 (thing_kind h), fun x => ⟨by unfold okRef nilB; rw [h]; simp, fun _ => x⟩⟩
theorem now_else {W R : List Int} {o : Int} (h : thingB W o = false) : nowB W R o = (kindOf o == 1 || nilB W o) := by
  rw [Bool.eq_iff_iff, nowB_iff]
  exact ⟨fun x => x.1, fun x => ⟨x, fun hk => by rw [ok_thing x hk] at h; cases h⟩⟩
theorem reach_contains {W R : List Int} {o : Int} : (reachList W R).contains o = true ↔ Reached W R o := by rw [List.contains_iff_mem, mem_reach]
theorem tplaces_few {W : List Int} (hl : W.length ≤ 2000) : (places W 2).length ≤ 2000 := by
  have h4 := (places_nodup (W := W) _ 2 (Nat.le_refl _)).length_le_of_subset (l₂ := List.range W.length) fun p hp => List.mem_range.2 (place_ge hp).2
  rw [List.length_range] at h4; omega
end Go.Proofs.Ythdhaokjibfjdaa

/- Package tri: the painter in memory; rows that are cloned and searched. -/
namespace Go.Proofs.Ythdhaokjibfjdaa
open Go.RowKit
open Go.Maps (Keyed keyOf_int_mk)

theorem IntMap.blk {w w' : World} {bm top : Nat} {f : Int → Option Int} (h : IntMap w bm top f) (e : w'.heap[bm]? = w.heap[bm]?) : IntMap w' bm top f := by
  obtain ⟨n, D, ⟨es, clock, hb0, r⟩, q⟩ := h
  exact ⟨n, D, ⟨es, clock, by rw [e]; exact hb0, r⟩, q⟩
theorem IntMap.upT {w : World} {bm top top' : Nat} {f : Int → Option Int} (h : IntMap w bm top f) (ht : top ≤ top') : IntMap w bm top' f := by
  obtain ⟨n, D, h1, h2, h3⟩ := h
  exact ⟨n, D, h1, Nat.le_trans h2 ht, h3⟩
theorem Row.blk {w w' : World} {b off : Nat} {xs : List Int} (h : Row w b off xs) (e : w'.heap[b]? = w.heap[b]?) (hs : w.heap.size ≤ w'.heap.size) : Row w' b off xs :=
  ⟨Nat.lt_of_lt_of_le h.lt hs, fun k hk => by rw [World.cell?_of_block (a := ⟨b, off + k, none⟩) e]; exact h.cell k hk, h.wf⟩
theorem own_blk {w w' : World} {B n : Nat} {v : Value} {xs : List Value} (h : w.ownsRow B 3 1 v n xs) (e : ∀ g, v.ownBlock = some g → w'.heap[g]? = w.heap[g]?) : w'.ownsRow B 3 1 v n xs := own_same h e

/-- The painter in block Q: its view, its roots (in rv), the colours (the map in block mm). From block L on it is the painter's own. -/
structure Pt (w : World) (L Q b cap bm mm T : Nat) (rv : Value) (W R : List Int) (F : Int → Option Int) : Prop where
  q0 : w.cell? ⟨Q, 0, none⟩ = some (sl b W.length cap)
  q1 : w.cell? ⟨Q, 1, none⟩ = some (.map (some bm))
  q2 : w.cell? ⟨Q, 2, none⟩ = some rv
  q3 : w.cell? ⟨Q, 3, none⟩ = some (.map (some mm))
  z : ∀ j, w.frozen? ⟨Q, j, none⟩ = false
  view : IsView w b cap bm W
  roots : w.ownsRow L 3 1 rv R.length (vals R)
  map : IntMap w mm T F
  low : L ≤ Q ∧ L ≤ b ∧ L ≤ bm ∧ L ≤ mm
  ne : Q ≠ b ∧ Q ≠ bm ∧ Q ≠ mm ∧ b ≠ bm ∧ b ≠ mm ∧ bm ≠ mm
  nr : ∀ g, rv.ownBlock = some g → g ≠ Q ∧ g ≠ b ∧ g ≠ bm ∧ g ≠ mm

namespace Pt
variable {w w' : World} {L Q b cap bm mm T T' : Nat} {rv v' : Value} {W W' R R' : List Int} {F F' : Int → Option Int}
theorem lt (h : Pt w L Q b cap bm mm T rv W R F) : Q < w.heap.size := World.block_lt_of_cell? _ _ h.q0
theorem up (h : Pt w L Q b cap bm mm T rv W R F) (ht : T ≤ T') : Pt w L Q b cap bm mm T' rv W R F := { h with map := h.map.upT ht }
theorem low' (h : Pt w L Q b cap bm mm T rv W R F) : L ≤ w.heap.size := Nat.le_trans h.low.1 (Nat.le_of_lt h.lt)
theorem same (h : Pt w L Q b cap bm mm T rv W R F) (hb : Below w.heap.size w w') : Pt w' L Q b cap bm mm T rv W R F := by
  have e : w'.heap[Q]? = w.heap[Q]? := hb.block Q h.lt
  have c : ∀ j v, w.cell? ⟨Q, j, none⟩ = some v → w'.cell? ⟨Q, j, none⟩ = some v := fun j v hv => (World.cell?_of_block (a := ⟨Q, j, none⟩) e).trans hv
  exact ⟨c _ _ h.q0, c _ _ h.q1, c _ _ h.q2, c _ _ h.q3, fun j => (World.frozen?_of_block (a := ⟨Q, j, none⟩) e).trans (h.z j), h.view.same hb, own_same h.roots fun g hg => hb.block g (h.roots.lt g hg).2, h.map.below hb h.map.lt, h.low, h.ne, h.nr⟩
/-- The colours have changed. -/
theorem mapped (h : Pt w L Q b cap bm mm T rv W R F) (hm : IntMap w' mm T' F') (hg : w.grownBy w' (some mm)) : Pt w' L Q b cap bm mm T' rv W R F' ∧ Below L w w' := by
  obtain ⟨n1, n2, n3, n4, n5, n6⟩ := h.ne
  obtain ⟨l1, l2, l3, l4⟩ := h.low
  have ls := h.low'
  have k : ∀ j, j < w.heap.size → j ≠ mm → w'.heap[j]? = w.heap[j]? := fun j hj hn => hg.block j hj (fun e => hn (Option.some.inj e))
  have e := k Q h.lt n3
  have c : ∀ j v, w.cell? ⟨Q, j, none⟩ = some v → w'.cell? ⟨Q, j, none⟩ = some v := fun j v hv => (World.cell?_of_block (a := ⟨Q, j, none⟩) e).trans hv
  have hB : Below L w w' := (Below.refl L w).grown hg ls (fun k hk => by injection hk; omega)
  exact ⟨⟨c _ _ h.q0, c _ _ h.q1, c _ _ h.q2, c _ _ h.q3, fun j => (World.frozen?_of_block (a := ⟨Q, j, none⟩) e).trans (h.z j),
    ⟨own_same h.view.own fun g hg => by simp only [Value.ownBlock, Option.some.injEq] at hg; subst hg; exact k _ h.view.lt n5, h.view.wf, h.view.begun.block' (k bm h.view.begun.lt n6)⟩,
    own_same h.roots fun g hg => k g (h.roots.lt g hg).2 (h.nr g hg).2.2.2, hm, h.low, h.ne, h.nr⟩, hB⟩
/-- A word has changed. -/
theorem worded (h : Pt w L Q b cap bm mm T rv W R F) (hv : IsView w' b cap bm W') (hl : W'.length = W.length) (hk : ∀ j, j < w.heap.size → j ≠ b → w'.heap[j]? = w.heap[j]?) (h0 : Below 0 w w') : Pt w' L Q b cap bm mm T rv W' R F ∧ Below L w w' := by
  obtain ⟨n1, n2, n3, n4, n5, n6⟩ := h.ne
  obtain ⟨l1, l2, l3, l4⟩ := h.low
  have ls := h.low'
  have e := hk Q h.lt n1
  have c : ∀ j v, w.cell? ⟨Q, j, none⟩ = some v → w'.cell? ⟨Q, j, none⟩ = some v := fun j v hv => (World.cell?_of_block (a := ⟨Q, j, none⟩) e).trans hv
  refine ⟨⟨by rw [hl]; exact c _ _ h.q0, c _ _ h.q1, c _ _ h.q2, c _ _ h.q3, fun j => (World.frozen?_of_block (a := ⟨Q, j, none⟩) e).trans (h.z j), hv,
    own_same h.roots fun g hg => hk g (h.roots.lt g hg).2 (h.nr g hg).2.1, h.map.blk (hk mm h.map.lt (fun e => n5 e.symm)), h.low, h.ne, h.nr⟩, ?_⟩
  exact (Kept3.below (x := b) (y := b) (z := b) ⟨h0, fun k hk1 hk2 _ _ => hk k hk1 hk2⟩ ls l2 l2 l2)
/-- A thing more. -/
theorem added {g c : Nat} (h : Pt w L Q b cap bm mm T rv W R F) (hI : InBox W' Q g c bm w') (hg : L ≤ g) (hk : Kept3 b bm Q w w') (hc : ∀ j, j ≠ 0 → w'.cell? ⟨Q, j, none⟩ = w.cell? ⟨Q, j, none⟩) (hz : ∀ j, w'.frozen? ⟨Q, j, none⟩ = w.frozen? ⟨Q, j, none⟩) (hw : g = b ∨ w.heap.size ≤ g) (h0 : 0 < W'.length) : Pt w' L Q g c bm mm T rv W' R F ∧ Below L w w' := by
  obtain ⟨n1, n2, n3, n4, n5, n6⟩ := h.ne
  obtain ⟨l1, l2, l3, l4⟩ := h.low
  have ls := h.low'
  have hml := h.map.lt
  refine ⟨⟨hI.q0, hI.q1, (hc 2 (by decide)).trans h.q2, (hc 3 (by decide)).trans h.q3, fun j => (hz j).trans (h.z j), hI.view,
    own_same h.roots fun k hk' => hk.2 k (h.roots.lt k hk').2 (h.nr k hk').2.1 (h.nr k hk').2.2.1 (h.nr k hk').1, h.map.blk (hk.2 mm hml (fun e => n5 e.symm) (fun e => n6 e.symm) (fun e => n3 e.symm)), ⟨l1, hg, l3, l4⟩, ⟨hI.neb h0, n2, n3, hI.nbm h0, by omega, n6⟩, fun k hk' => ?_⟩, hk.below ls l2 l3 l1⟩
  obtain ⟨r1, r2, r3, r4⟩ := h.nr k hk'
  have := (h.roots.lt k hk').2
  exact ⟨r1, by omega, r3, r4⟩
/-- A root more, or another row of them. -/
theorem rooted (h : Pt w L Q b cap bm mm T rv W R F) (hown : w'.ownsRow L 3 1 v' R'.length (vals R')) (hg : w.grownBy w' rv.ownBlock) (hw : v'.ownBlock = rv.ownBlock ∨ ∃ g, v'.ownBlock = some g ∧ w.heap.size ≤ g) :
    Pt (w'.setCell ⟨Q, 2, none⟩ v') L Q b cap bm mm T v' W R' F ∧ Below L w (w'.setCell ⟨Q, 2, none⟩ v') := by
  obtain ⟨n1, n2, n3, n4, n5, n6⟩ := h.ne
  obtain ⟨l1, l2, l3, l4⟩ := h.low
  have ls := h.low'
  have hql := h.lt
  have hbl := h.view.lt
  have hbml := h.view.begun.lt
  have hml := h.map.lt
  have k : ∀ j, j < w.heap.size → rv.ownBlock ≠ some j → w'.heap[j]? = w.heap[j]? := fun j hj hn => hg.block j hj (fun e => hn e.symm)
  have kQ := k Q hql (fun e => (h.nr Q e).1 rfl)
  have nr' : ∀ g, v'.ownBlock = some g → g ≠ Q ∧ g ≠ b ∧ g ≠ bm ∧ g ≠ mm := fun g hg' => by
    rcases hw with e | ⟨g', e, hl⟩
    · exact h.nr g (e.symm.trans hg')
    · rw [e] at hg'; injection hg' with hg'; subst hg'; exact ⟨by omega, by omega, by omega, by omega⟩
  have c0 : ∀ j v, w.cell? ⟨Q, j, none⟩ = some v → w'.cell? ⟨Q, j, none⟩ = some v := fun j v hv => (World.cell?_of_block (a := ⟨Q, j, none⟩) kQ).trans hv
  have c : ∀ j v, j ≠ 2 → w.cell? ⟨Q, j, none⟩ = some v → (w'.setCell ⟨Q, 2, none⟩ v').cell? ⟨Q, j, none⟩ = some v := fun j v hj hv => by
    rw [World.cell?_setCell_other _ _ _ _ (fun e => hj (by injection e with _ e; exact e.symm))]; exact c0 j v hv
  have kk : ∀ j, j < w.heap.size → j ≠ Q → rv.ownBlock ≠ some j → (w'.setCell ⟨Q, 2, none⟩ v').heap[j]? = w.heap[j]? := fun j hj hn hr => (Below.heap_setCell _ _ _ _ hn).trans (k j hj hr)
  refine ⟨⟨c _ _ (by decide) h.q0, c _ _ (by decide) h.q1, World.cell?_setCell_same' _ _ _ (by rw [c0 _ _ h.q2]; rfl), c _ _ (by decide) h.q3, fun j => by rw [World.frozen?_setCell]; exact (World.frozen?_of_block (a := ⟨Q, j, none⟩) kQ).trans (h.z j),
    ⟨own_same h.view.own fun g hg => by simp only [Value.ownBlock, Option.some.injEq] at hg; subst hg; exact kk _ hbl (fun e => n1 e.symm) (fun e => (h.nr _ e).2.1 rfl), h.view.wf, h.view.begun.block' (kk bm hbml (fun e => n2 e.symm) (fun e => (h.nr _ e).2.2.1 rfl))⟩,
    own_same hown fun g hg' => Below.heap_setCell _ _ _ _ (nr' g hg').1, h.map.blk (kk mm hml (fun e => n3 e.symm) (fun e => (h.nr _ e).2.2.2 rfl)), h.low, h.ne, nr'⟩, ?_⟩
  exact ((Below.refl L w).grown hg ls (fun k hk => (h.roots.lt k hk).1)).setCell (p := ⟨Q, 2, none⟩) l1 _
/-- A root is another one. -/
theorem rootset {g c i : Nat} {x : Int} (h : Pt w L Q b cap bm mm T (sl g R.length c) W R F) : Pt (w.setCell ⟨g, i, none⟩ (.int .i64 x)) L Q b cap bm mm T (sl g R.length c) W (R.set i x) F ∧ Below L w (w.setCell ⟨g, i, none⟩ (.int .i64 x)) := by
  obtain ⟨r1, r2, r3, r4⟩ := h.nr g rfl
  have kk : ∀ j, j ≠ g → (w.setCell ⟨g, i, none⟩ (.int .i64 x)).heap[j]? = w.heap[j]? := fun j hn => Below.heap_setCell _ _ _ _ hn
  have e := kk Q (fun e => r1 e.symm)
  have c : ∀ j v, w.cell? ⟨Q, j, none⟩ = some v → (w.setCell ⟨g, i, none⟩ (.int .i64 x)).cell? ⟨Q, j, none⟩ = some v := fun j v hv => (World.cell?_of_block (a := ⟨Q, j, none⟩) e).trans hv
  have hst := (h.roots.stored i (.int .i64 x)).1
  rw [show (vals R).set i (.int .i64 x) = vals (R.set i x) by simp [vals, List.map_set]] at hst
  refine ⟨⟨c _ _ h.q0, c _ _ h.q1, c _ _ h.q2, c _ _ h.q3, fun j => (World.frozen?_of_block (a := ⟨Q, j, none⟩) e).trans (h.z j),
    ⟨own_same h.view.own fun k hk => by simp only [Value.ownBlock, Option.some.injEq] at hk; subst hk; exact kk _ (fun e => r2 e.symm), h.view.wf, h.view.begun.block' (kk bm (fun e => r3 e.symm))⟩,
    by rw [List.length_set]; exact hst, h.map.blk (kk mm (fun e => r4 e.symm)), h.low, h.ne, h.nr⟩, (Below.refl L w).setCell (p := ⟨g, i, none⟩) (h.roots.lt g rfl).1 _⟩
end Pt

/-- What a row of roots is where it lies. -/
theorem roots_own {w : World} {L : Nat} {rv : Value} {W R : List Int} (h : w.ownsRow L 3 1 rv R.length (vals R)) (hr : ∀ x ∈ R, okRef W x) : ∃ ad c, rv = .slice ad R.length c ∧ RootsAt ad R w := by
  rcases h.2 with ⟨rfl, h0⟩ | ⟨g, cap, cur, rfl, hg, hh, r⟩
  · exact ⟨none, 0, by rw [h0], fun h => by omega⟩
  · refine ⟨_, _, rfl, fun _ => ⟨g, 0, rfl, (h.lt g rfl).2, fun k hk => ?_, fun k => ?_⟩⟩
    · rw [Nat.zero_add]; exact own_cell (own_mono (Nat.zero_le _) h) hk
    · by_cases hk : k < R.length
      · exact ok_wf (hr _ (wd_mem hk))
      · rw [wd_past (by omega)]; decide

set_option maxRecDepth 20000 in
/-- Clone of whatever numbers, however many. -/
theorem clone_own (xs : List Int) (rad : Option Addr) (rc : Nat) (w : World) (hr : RootsAt rad xs w) (hl : xs.length ≤ 900000) :
    Calls Try.prog 33 #[.slice rad xs.length rc] w fun e w' => OwnedAny w.heap.size xs e w' ∧ Below w.heap.size w w' := by
  obtain ⟨i0, hi, hz0, hz1, hz2⟩ := info_parts info3
  cases rad with
  | none =>
    have h0 : xs.length = 0 := by
      refine Nat.eq_zero_of_not_pos fun hp => ?_
      obtain ⟨_, _, e, _⟩ := hr hp
      cases e
    have e0 : xs = [] := List.eq_nil_of_length_eq_zero h0
    subst e0
    have he : (binOp .eql 22 (.slice none 0 rc) (.slice none 0 0)).run Try.prog w = .ok (.bool true) w := Lib.run_eql_slice_nil w 22 3 none 0 rc 0 0 ty30
    go_enter Try.func33, Try.ntmps33
    go_wp2
    go_ret
    exact ⟨⟨none, 0, rfl, World.ownsRow_nil _ _ _ _⟩, Below.refl _ _⟩
  | some a =>
    have hn : ∀ j u, (vals xs)[j]? = some u → (w.alloc (.cells #[] 3)).cell? (a.add j) = some u := fun j u hj => by
      have hlt : j < xs.length := by have := (List.getElem?_eq_some_iff.1 hj).1; simpa using this
      obtain ⟨rb, ro, e, hrow⟩ := hr (by omega)
      injection e with e
      rw [e]; exact row_news (hrow.alloc _) j u hj
    have he : (binOp .eql 22 (.slice (some a) xs.length rc) (.slice none 0 0)).run Try.prog w = .ok (.bool false) w := Lib.run_eql_slice_nil w 22 3 (some a) xs.length rc 0 0 ty30
    go_enter Try.func33, Try.ntmps33
    go_wp2_with (first | (at_builtin; refine wpList_append_own _ rfl _ _ 22 rfl w.heap.size 3 i0 (.int .i64 0) 1 8 ty30 hi hz0 hz1 hz2 rfl (by decide) (sl w.heap.size 0 0) 0 [] rfl (World.ownsRow_lit w #[] 0 (Nat.le_refl _) (Nat.zero_le _) rfl) a xs.length rc (vals xs) rfl (by simp) hn (ints_oneCell _ _) (by unfold maxLen; omega) (by omega) (by simp) ?_; intro v' w1 hown' hgrow hnil))
    simp only [Nat.zero_add, List.nil_append] at hown'
    obtain ⟨g, cap', rfl, hg, hown⟩ := own_shape hown' (fun e => by have := (hnil.1 e).1; cases this)
    go_ret
    exact ⟨⟨_, _, rfl, hown'⟩, ((Below.refl _ _).alloc (Nat.le_refl _) _).grown hgrow (by simp) (fun k hk => by simp [Value.ownBlock] at hk; omega)⟩

/-- What Index tells. -/
def IndexAns (l : List Int) (x i : Int) : Prop := decide (0 ≤ i) = l.contains x
/-- slices.Index of numbers. -/
theorem inindex_any (l : List Int) (x : Int) (ad : Option Addr) (c : Nat) (w : World) (hr : 0 < l.length → ∃ b, ad = some ⟨b, 0, none⟩ ∧ b < w.heap.size ∧ ∀ k, k < l.length → w.cell? ⟨b, k, none⟩ = some (.int .i64 (wd l k))) (hl : l.length ≤ 100000) :
    Calls Try.prog 74 #[.slice ad l.length c, .int .i64 x] w fun e w' => (∃ i : Int, e = .returned (.int .i64 i) ∧ IndexAns l x i) ∧ w' = w := by
  have HR : Hid (0 < l.length → ∃ b, ad = some ⟨b, 0, none⟩ ∧ b < w.heap.size ∧ ∀ k, k < l.length → w.cell? ⟨b, k, none⟩ = some (.int .i64 (wd l k))) := hr
  clear hr
  go_enter Try.func74, Try.ntmps74
  go_wp2_with fail
  go_loopw [8] (fun s8 wr => ∃ (i : Nat), s8 = .int .i64 i ∧ i ≤ l.length ∧ wr = w ∧ Hid (∀ j, j < i → wd l j ≠ x)) (fun s8 _ => l.length - (intOf s8).toNat)
  case atStart => exact ⟨0, rfl, Nat.zero_le _, rfl, fun j h => by omega⟩
  case round =>
    obtain ⟨i, rfl, hi, rfl, HN⟩ := hrel
    by_cases hlt : i < l.length
    · have hil : (i : Int) < (l.length : Int) := by omega
      have hwi := wrap_id (x := (i : Int) + 1) (by omega) (by omega)
      obtain ⟨b, rfl, hb, hc⟩ := HR.out (by omega)
      have hcx := hc i hlt
      have hm := wd_mem hlt
      by_cases hx : wd l i = x
      · have HE : Hid (IndexAns l x i) := by
          show decide (0 ≤ (i : Int)) = _
          rw [decide_eq_true (by omega), List.contains_iff_mem.2 (by rw [← hx]; exact hm)]
        rw [hx] at hcx
        clear hc hm hx HR
        go_wp2_with fail
        go_ret
        exact ⟨⟨_, rfl, HE.out⟩, rfl⟩
      · have hbe : (x == wd l i) = false := by rw [beq_eq_false_iff_ne]; exact fun e => hx e.symm
        have HN2 : Hid (∀ j, j < i + 1 → wd l j ≠ x) := fun j h => by
          by_cases e : j = i
          · subst e; exact hx
          · exact HN.out j (by omega)
        clear hc hm hx HN
        go_wp2_with fail
        exact ⟨⟨i + 1, by simp, by omega, trivial, HN2⟩, by simp [intOf]; omega⟩
    · have hil : ¬ (i : Int) < (l.length : Int) := by omega
      have HE : Hid (IndexAns l x (-1)) := by
        show decide (0 ≤ (-1 : Int)) = _
        rw [decide_eq_false (by omega)]
        refine (Bool.eq_false_iff.2 fun h => ?_).symm
        obtain ⟨j, hj, e⟩ := List.getElem_of_mem (List.contains_iff_mem.1 h)
        refine HN.out j (by omega) ?_
        unfold wd; rw [List.getD_eq_getElem?_getD, List.getElem?_eq_getElem hj]; exact e
      go_wp2_with fail
      go_ret
      exact ⟨⟨_, rfl, HE.out⟩, rfl⟩
theorem incontains_any (l : List Int) (x : Int) (ad : Option Addr) (c B : Nat) (w : World) (hr : w.ownsRow B 3 1 (.slice ad l.length c) l.length (vals l)) (hl : l.length ≤ 100000) :
    Calls Try.prog 62 #[.slice ad l.length c, .int .i64 x] w fun e w' => e = .returned (.bool (l.contains x)) ∧ w' = w := by
  have hi := inindex_any l x ad c w (fun h0 => by
    obtain ⟨g, cg, hsh, hge, hown0⟩ := own_shape hr (fun e => by injection e with _ h1 _; omega)
    simp only [Value.slice.injEq, true_and] at hsh
    obtain ⟨rfl, rfl⟩ := hsh
    exact ⟨g, rfl, own_lt hown0, fun k hk => own_cell hown0 hk⟩) hl
  clear hr
  go_enter Try.func62, Try.ntmps62
  go_wp2_with (first | (go_at_call 74; refine hi.mono ?_; rintro e w1 ⟨⟨i, rfl, hc⟩, hw⟩; rw [hw]; clear hw w1))
  go_ret
  have hd : decide (0 ≤ i) = l.contains x := hc
  exact ⟨by rw [← hd]; rfl, rfl⟩
end Go.Proofs.Ythdhaokjibfjdaa

/- Package tri: (*painter).shade, all. -/
namespace Go.Proofs.Ythdhaokjibfjdaa
open Go.RowKit
open Go.Maps (Keyed keyOf_int_mk)

/-- What shade does. -/
def ShadeAns (L Q b cap bm mm T : Nat) (rv : Value) (W R C : List Int) (w : World) (e : Ending) (w' : World) : Prop :=
  e = .returned (.tuple #[]) ∧ Pt w' L Q b cap bm mm T rv W R (colF W C) ∧ Below L w w'
theorem tdrop_at {l : List Int} {i : Nat} (h : i < l.length) : l.drop i = wd l i :: l.drop (i + 1) := by
  rw [List.drop_eq_getElem_cons h]; unfold wd; rw [List.getD_eq_getElem?_getD, List.getElem?_eq_getElem h]; rfl

set_option maxRecDepth 20000 in
set_option maxHeartbeats 4000000 in
theorem tshade_some (L Q b cap bm mm T : Nat) (rv : Value) (W R C refs : List Int) (rb ro rc : Nat) (w : World) (hP : Pt w L Q b cap bm mm T rv W R (colF W C)) (hC : C.length = W.length + 1) (hr : Row w rb ro refs) (hne : rb ≠ mm) (hT : T + refs.length ≤ 1000000000) :
    Calls Try.prog 34 #[.pointer (some ⟨Q, 0, none⟩), .slice (some ⟨rb, ro, none⟩) refs.length rc] w (ShadeAns L Q b cap bm mm (T + refs.length) rv W R (shadeL C refs) w) := by
  generalize hG : shadeL C refs = G
  have HG : Hid (shadeL C refs = G) := hG
  clear hG
  go_enter Try.func34, Try.ntmps34
  go_wp2
  go_loopw [10] (fun s wr => ∃ (i : Nat) (C' : List Int), s = .int .i64 i ∧ i ≤ refs.length ∧ Hid (G = shadeL C' (refs.drop i)) ∧ Hid (C'.length = W.length + 1) ∧ Pt wr L Q b cap bm mm (T + i) rv W R (colF W C') ∧ Below L w wr ∧ Row wr rb ro refs) (fun s _ => refs.length - (intOf s).toNat)
  case atStart => exact ⟨0, C, rfl, Nat.zero_le _, HG.out.symm, hC, hP, Below.refl _ _, hr⟩
  case round =>
    clear hP hr hC
    obtain ⟨i, C', rfl, hi, HK, HC, hP, hB, hr⟩ := hrel
    by_cases hlt : i < refs.length
    · have hii : (i : Int) < (refs.length : Int) := by omega
      have hci := hr.cell i hlt
      have hwf := hr.wf i
      have hrl := hr.lt
      have hq3 := hP.q3
      have hql := hP.lt
      obtain ⟨n, D, hD, hDn, hDh, hDa⟩ := hP.map
      have hhi := hDh (wd refs i)
      have hai := hDa (wd refs i)
      have HDh : Hid (∀ o : Int, Go.Maps.has D (.int .i64 o) = (colF W C' o).isSome) := hDh
      have HDa : Hid (∀ (o x : Int), colF W C' o = some x → D.atKey (.int .i64 o) (.lit (.int .i64 0)) = .lit (.int .i64 x)) := hDa
      clear hDh hDa
      have HK' : Hid (G = shadeL (shadeC C' (wd refs i)) (refs.drop (i + 1))) := by have := HK.out; rw [tdrop_at hlt] at this; exact this
      have HC' : Hid ((shadeC C' (wd refs i)).length = W.length + 1) := by rw [shade_length]; exact HC.out
      clear HK
      cases ht : thingB W (wd refs i) with
      | true =>
        rw [col_yes ht] at hhi hai
        have hhas : Go.Maps.has D (.int .i64 (wd refs i)) = true := hhi
        have hav := hai _ rfl
        have hpl : pl2 (wd refs i) < C'.length := by rw [HC.out]; have := (place_ge (thing_at ht).1).2; omega
        by_cases hz : wd C' (pl2 (wd refs i)) = 0
        · have Hadd : Hid ((fun k => if k = wd refs i then some 1 else colF W C' k) = colF W (shadeC C' (wd refs i))) := col_shade_yes ht hz hpl
          rw [hz] at hav
          clear hhi hai hpl hz ht
          generalize wd refs i = O at *
          generalize shadeC C' O = C2 at *
          have hw1 : (Lit.int .i64 1).wf = true := by decide
          go_wp2_with (first | (at_lookup; refine wpList_lookup_own_ok_int _ rfl _ _ 44 rfl 3 3 .i64 key3 ty59 ty3 (zero3 _) mm n D rfl hD _ _ rfl (keyOf_int_mk ty3 hwf) ?_; intro c hat hwc; have hcs : c = 0 := (by rw [hav] at hat; simp at hat; exact hat.symm); subst hcs; clear hat hwc) | (at_mapUpdate; refine wpList_mapUpdate_own _ rfl _ _ _ 44 rfl 3 3 key3 ty59 (plainElem Try.prog 3) mm n D rfl hD (by unfold maxLen; omega) _ _ _ rfl rfl (keyOf_int_mk ty3 hwf) _ [] (plainElem_int ty3 hw1) ?_; intro w7 hm7 hg7))
          have hput := IntMap.put hD hDn HDh.out HDa.out hm7
          rw [Hadd.out] at hput
          obtain ⟨hP7, hB7⟩ := hP.mapped hput hg7
          have hr7 := hr.blk (hg7.block rb hrl (fun e => hne (Option.some.inj e))) hg7.size
          go_roundw
          case rel => exact ⟨i + 1, C2, by first | rfl | simp, by omega, HK', HC', hP7, hB.trans hB7, hr7⟩
          case measure => simp [intOf]; omega
        · have hsame : Hid (colF W (shadeC C' (wd refs i)) = colF W C') := col_shade_no (fun _ => hz)
          have hbz : (wd C' (pl2 (wd refs i)) == 0) = false := by simpa using hz
          clear hhi hai hpl hz ht
          generalize wd C' (pl2 (wd refs i)) = X at *
          generalize shadeC C' (wd refs i) = C2 at *
          go_wp2_with (first | (at_lookup; refine wpList_lookup_own_ok_int _ rfl _ _ 44 rfl 3 3 .i64 key3 ty59 ty3 (zero3 _) mm n D rfl hD _ _ rfl (keyOf_int_mk ty3 hwf) ?_; intro c hat hwc; have hcs : c = X := (by rw [hav] at hat; simp at hat; exact hat.symm); subst hcs; clear hat hwc))
          go_roundw
          case rel => exact ⟨i + 1, C2, by first | rfl | simp, by omega, HK', HC', by rw [hsame.out]; exact hP.up (by omega), hB, hr⟩
          case measure => simp [intOf]; omega
      | false =>
        rw [col_no ht] at hhi
        have hhas : Go.Maps.has D (.int .i64 (wd refs i)) = false := hhi
        have hsame : Hid (colF W (shadeC C' (wd refs i)) = colF W C') := col_shade_no (fun h => by rw [ht] at h; cases h)
        clear hhi hai ht
        generalize shadeC C' (wd refs i) = C2 at *
        go_wp2_with (first | (at_lookup; refine wpList_lookup_own_ok_int _ rfl _ _ 44 rfl 3 3 .i64 key3 ty59 ty3 (zero3 _) mm n D rfl hD _ _ rfl (keyOf_int_mk ty3 hwf) ?_; intro c hat hwc; clear hat hwc))
        go_roundw
        case rel => exact ⟨i + 1, C2, by first | rfl | simp, by omega, HK', HC', by rw [hsame.out]; exact hP.up (by omega), hB, hr⟩
        case measure => simp [intOf]; omega
    · have hii : ¬ (i : Int) < (refs.length : Int) := by omega
      have HE : Hid (G = C') := by have := HK.out; rw [List.drop_eq_nil_of_le (by omega)] at this; exact this
      clear HK
      go_wp2_with fail
      go_end0
      have e := HE.out
      subst e
      exact ⟨rfl, hP.up (by omega), hB⟩
theorem tshade_none (L Q b cap bm mm T : Nat) (rv : Value) (W R C : List Int) (ad : Option Addr) (rc : Nat) (w : World) (hP : Pt w L Q b cap bm mm T rv W R (colF W C)) :
    Calls Try.prog 34 #[.pointer (some ⟨Q, 0, none⟩), .slice ad 0 rc] w (ShadeAns L Q b cap bm mm T rv W R C w) := by
  go_enter Try.func34, Try.ntmps34
  go_wp2
  refine wp_loop_rounds 1 ?_
  rw [rounds_succ]
  go_wp2
  go_end0
  exact ⟨rfl, hP, Below.refl _ _⟩
/-- shade of whatever lies there. -/
theorem tshade_any (L Q b cap bm mm T : Nat) (rv : Value) (W R C refs : List Int) (rad : Option Addr) (rc : Nat) (w : World) (hP : Pt w L Q b cap bm mm T rv W R (colF W C)) (hC : C.length = W.length + 1) (hr : 0 < refs.length → ∃ rb ro, rad = some ⟨rb, ro, none⟩ ∧ Row w rb ro refs ∧ rb ≠ mm) (hT : T + refs.length ≤ 1000000000) :
    Calls Try.prog 34 #[.pointer (some ⟨Q, 0, none⟩), .slice rad refs.length rc] w (ShadeAns L Q b cap bm mm (T + refs.length) rv W R (shadeL C refs) w) := by
  by_cases h0 : 0 < refs.length
  · obtain ⟨rb, ro, rfl, h1, h2⟩ := hr h0
    exact tshade_some L Q b cap bm mm T rv W R C refs rb ro rc w hP hC h1 h2 hT
  · have e0 : refs = [] := List.eq_nil_of_length_eq_zero (by omega)
    subst e0
    exact tshade_none L Q b cap bm mm T rv W R C rad rc w hP

set_option maxRecDepth 20000 in
set_option maxHeartbeats 4000000 in
theorem tall_any (L Q b cap bm mm T : Nat) (rv : Value) (W R C : List Int) (col : Int) (w : World) (hP : Pt w L Q b cap bm mm T rv W R (colF W C)) (hu : unfit W 2 = none) (hl : W.length ≤ 2000) :
    Calls Try.prog 40 #[.pointer (some ⟨Q, 0, none⟩), .int .i64 col] w fun e w' => OwnedAny w.heap.size (refs (ofCol W C col)) e w' ∧ Below w.heap.size w w' := by
  obtain ⟨i0, hi, hz0, hz1, hz2⟩ := info_parts info3
  have hq0 := hP.q0
  have hq1 := hP.q1
  have hql := hP.lt
  have hpf := tplaces_few hl
  generalize hG : ofCol W C col = G
  have HG : Hid ((places W 2).filter (fun p => wd C p == col) = G) := hG
  clear hG
  go_enter Try.func40, Try.ntmps40
  go_wp2_with (first | (go_at_call 26; refine (things_any W b cap bm _ hP.view hu hl).mono ?_; rintro e w1 ⟨⟨tad, tc, rfl, hown1⟩, hb1⟩))
  have hP1 := hP.same hb1
  have hln : (refs (places W 2)).length = (places W 2).length := refs_length _
  have HO : Hid (w1.ownsRow w.heap.size 3 1 (.slice tad (refs (places W 2)).length tc) (refs (places W 2)).length (vals (refs (places W 2)))) := hown1
  have HL : Hid ((refs (places W 2)).length = (places W 2).length) := hln
  clear hown1 hln hq0 hq1
  go_loopw [5, 14] (fun v s wr => ∃ (i : Nat) (pre : List Nat), s = .int .i64 i ∧ i ≤ (refs (places W 2)).length ∧ Hid (G = pre ++ ((places W 2).drop i).filter (fun p => wd C p == col)) ∧ pre.length ≤ i ∧ wr.ownsRow w1.heap.size 3 1 v pre.length (vals (refs pre)) ∧ Below w1.heap.size w1 wr) (fun _ s _ => (refs (places W 2)).length - (intOf s).toNat)
  case atStart => exact ⟨0, [], rfl, Nat.zero_le _, HG.out.symm, Nat.zero_le _, World.ownsRow_nil _ _ _ _, Below.refl _ _⟩
  case round =>
    obtain ⟨i, pre, rfl, hi', HK, hpre, hown, hB⟩ := hrel
    by_cases hlt : i < (refs (places W 2)).length
    · have hii : (i : Int) < ((refs (places W 2)).length : Int) := by omega
      have hi2 : i < (places W 2).length := by have := HL.out; omega
      obtain ⟨g, cg, hsh, hge, hown0⟩ := own_shape HO.out (fun e => by injection e with _ h1 _; omega)
      simp only [Value.slice.injEq, true_and] at hsh
      obtain ⟨rfl, rfl⟩ := hsh
      have hcl := own_cell hown0 hlt
      have hgl := own_lt hown0
      have hcw := through hB hcl hgl
      have hgw : g < wr.heap.size := Nat.lt_of_lt_of_le hgl hB.size
      have hmem : (places W 2)[i] ∈ places W 2 := List.getElem_mem hi2
      have hwdi : wd (refs (places W 2)) i = 2 * ((places W 2)[i] : Int) := by
        unfold wd refs; rw [List.getD_eq_getElem?_getD, List.getElem?_map, List.getElem?_eq_getElem hi2]; rfl
      have hpg := (place_ge hmem).2
      have ht := ref_thing hl hmem
      rw [hwdi] at hcw
      have hPr := hP1.same hB
      have hq3 := hPr.q3
      have hqr := hPr.lt
      obtain ⟨n, D, hD, hDn, hDh, hDa⟩ := hPr.map
      have hav := hDa _ _ (col_yes (C := C) ht)
      rw [pl2_two] at hav
      have HK' : Hid (G = pre ++ (if wd C (places W 2)[i] == col then [(places W 2)[i]] else []) ++ ((places W 2).drop (i + 1)).filter (fun p => wd C p == col)) := by
        have := HK.out
        rw [List.drop_eq_getElem_cons hi2, List.filter_cons] at this
        show _ = _
        rw [this]
        split <;> simp
      clear HK hDh hDa hcl hwdi ht hmem
      generalize (places W 2)[i] = p at *
      have hwf : (Lit.int .i64 (2 * (p : Int))).wf = true := by go_wf
      cases hx : (wd C p == col) with
      | true =>
        rw [hx, if_pos rfl] at HK'
        generalize wd C p = X at *
        go_wp2_with (first | (at_lookup; refine wpList_lookup_own_int _ rfl _ _ 44 rfl 3 3 .i64 key3 ty59 ty3 (zero3 _) mm n D rfl hD _ _ rfl (keyOf_int_mk ty3 hwf) ?_; intro c hat hwc; have hcs : c = X := (by rw [hav] at hat; simp at hat; exact hat.symm); subst hcs; clear hat hwc) | (at_builtin; refine wpList_append_where rfl (.tmp 26) (.tmp 28) rfl w1.heap.size pre.length 1 _ (.int .i64 (2 * (p : Int))) (vals (refs pre)) rfl (hown.alloc _) ⟨wr.heap.size, 0, none⟩ rfl (cell_one_new _ _ _) rfl (by have := HL.out; omega) (by have := hB.size; simp; omega) ?_; intro v' w4 hown4 hg4 hw4))
        have hsz4 := hg4.size
        have hB4 : Below w1.heap.size w1 w4 := (hB.alloc hB.size _).grown hg4 (by have := hB.size; simp; omega) (fun k hk => (hown.lt k hk).1)
        go_roundw
        case rel => exact ⟨i + 1, pre ++ [p], by first | rfl | simp, by omega, HK', by simp; omega, by rw [refs_snoc, List.length_append]; exact hown4, hB4⟩
        case measure => simp [intOf]; omega
      | false =>
        rw [hx, if_neg (by decide), List.append_nil] at HK'
        generalize wd C p = X at *
        go_wp2_with (first | (at_lookup; refine wpList_lookup_own_int _ rfl _ _ 44 rfl 3 3 .i64 key3 ty59 ty3 (zero3 _) mm n D rfl hD _ _ rfl (keyOf_int_mk ty3 hwf) ?_; intro c hat hwc; have hcs : c = X := (by rw [hav] at hat; simp at hat; exact hat.symm); subst hcs; clear hat hwc))
        go_roundw
        case rel => exact ⟨i + 1, pre, by first | rfl | simp, by omega, HK', by omega, hown, hB⟩
        case measure => simp [intOf]; omega
    · have hii : ¬ (i : Int) < ((refs (places W 2)).length : Int) := by omega
      have HE : Hid (G = pre) := by
        have := HK.out
        rw [List.drop_eq_nil_of_le (by have := HL.out; omega)] at this
        show _ = _
        rw [this]; simp
      clear HK
      go_wp2_with fail
      go_ret
      rw [HE.out]
      refine ⟨owned_any (refs_length pre).symm (own_mono hb1.size hown), hb1.trans (hB.mono hb1.size)⟩
end Go.Proofs.Ythdhaokjibfjdaa

/- Package tri: (*painter).reached, isKnown, scan. -/
namespace Go.Proofs.Ythdhaokjibfjdaa
open Go.RowKit
open Go.Maps (Keyed keyOf_int_mk)

/-- A painter at a state, wherever its parts lie. -/
def Pn (w : World) (L Q T : Nat) (s : Tri) : Prop := ∃ b cap bm mm rv, Pt w L Q b cap bm mm T rv s.W s.R (colF s.W s.C)
/-- What an op does. -/
def OpAns (L Q T : Nat) (s : Tri) (w : World) (e : Ending) (w' : World) : Prop := e = .returned (.tuple #[]) ∧ Pn w' L Q T s ∧ Below L w w'

set_option maxRecDepth 20000 in
set_option maxHeartbeats 4000000 in
theorem treached_any (L Q b cap bm mm T : Nat) (rv : Value) (W R : List Int) (F : Int → Option Int) (w : World) (hP : Pt w L Q b cap bm mm T rv W R F) (hc : (checkOf W).1 = 0) (hr : ∀ x ∈ R, okRef W x) (hR : R.length ≤ 50000) :
    Calls Try.prog 61 #[.pointer (some ⟨Q, 0, none⟩)] w fun e w' => OwnedAny w.heap.size (reachList W R) e w' ∧ Below w.heap.size w w' := by
  have hf := fine_of hc
  obtain ⟨ad, c, rfl, hra⟩ := roots_own hP.roots hr
  have q0 := hP.q0
  have q1 := hP.q1
  have q2 := hP.q2
  have hq := hP.lt
  have HF : Hid (∀ w0, Below w.heap.size w w0 → Calls Try.prog 20 #[viewV b W.length cap bm, .slice ad R.length c] w0 fun e w' => OwnedAny w0.heap.size (reachList W R) e w' ∧ Below w0.heap.size w0 w') :=
    fun w0 hb => from_wide W R b cap bm ad c w0 (hP.view.same hb) (hra.below hb) hf.fit hf.few hR
  clear hra hr hP
  go_enter Try.func61, Try.ntmps61
  go_upto_region 1 with fail
  go_region_held3 (fun w' => w'.cell? ⟨Q, 0, none⟩ = some (sl b W.length cap) ∧ w'.cell? ⟨Q, 1, none⟩ = some (.map (some bm)) ∧ w'.cell? ⟨Q, 2, none⟩ = some (.slice ad R.length c)) (go_keep) (first | (go_at_call 20; refine (HF.out _ (by first | exact Below.refl _ _ | exact (Below.refl _ _).drew | exact (Below.refl _ _).drew.drew)).mono ?_; rintro e w5 ⟨⟨fa, fc, rfl, hown5⟩, hb5⟩; have hq5 : Below w.heap.size w w5 := ((Below.refl _ w).drew).trans hb5; have kk0 := through hq5 q0 hq; have kk1 := through hq5 q1 hq; have kk2 := through hq5 q2 hq))
  go_wp2_with fail
  go_ret
  exact ⟨⟨_, _, rfl, hown5⟩, hq5⟩

set_option maxHeartbeats 4000000 in
theorem tknown_any (L Q b cap bm mm T : Nat) (rv : Value) (W R : List Int) (F : Int → Option Int) (o : Int) (ad : Option Addr) (c B : Nat) (w : World) (hP : Pt w L Q b cap bm mm T rv W R F) (hl : W.length ≤ 2000) (hown : w.ownsRow B 3 1 (.slice ad (reachList W R).length c) (reachList W R).length (vals (reachList W R))) :
    Calls Try.prog 63 #[.pointer (some ⟨Q, 0, none⟩), .int .i64 o, .slice ad (reachList W R).length c] w fun e w' => e = .returned (.bool (nowB W R o)) ∧ Below w.heap.size w w' := by
  have q0 := hP.q0
  have q1 := hP.q1
  have hq := hP.lt
  have hrl := reach_length W R
  cases ht : thingB W o with
  | true =>
    rw [now_thing ht]
    have HC : Hid (∀ w0, Below w.heap.size w w0 → Calls Try.prog 62 #[.slice ad (reachList W R).length c, .int .i64 o] w0 fun e w' => e = .returned (.bool ((reachList W R).contains o)) ∧ w' = w0) :=
      fun w0 hb => incontains_any (reachList W R) o ad c B _ (own_same hown fun g hg => hb.block g (hown.lt g hg).2) (by omega)
    generalize (reachList W R).contains o = X at *
    go_enter Try.func63, Try.ntmps63
    go_wp2_with (first | (go_at_call 42; refine (has_any W b cap bm _ _ hP.view).mono ?_; rw [ht]; rintro e w1 ⟨rfl, hb1⟩) | (go_at_call 62; refine (HC.out _ hb1).mono ?_; rintro e w2 ⟨rfl, hw2⟩; rw [hw2]; clear hw2 w2))
    go_ret
    exact ⟨rfl, hb1⟩
  | false =>
    rw [now_else ht]
    go_enter Try.func63, Try.ntmps63
    go_wp2_with (first | (go_at_call 42; refine (has_any W b cap bm _ _ hP.view).mono ?_; rw [ht]; rintro e w1 ⟨rfl, hb1⟩; have hP1 := hP.same hb1; have u0 := hP1.q0; have u1 := hP1.q1; have hq1 := hP1.lt) | (go_at_call 32; refine (isRef_any W b cap bm _ _ hP1.view).mono ?_; rintro e w2 ⟨rfl, hb2⟩))
    go_ret
    exact ⟨rfl, hb1.trans (hb2.mono hb1.size)⟩

set_option maxRecDepth 20000 in
set_option maxHeartbeats 4000000 in
theorem tscan_any {W0 R0 : List Int} (L Q b cap bm mm T : Nat) (rv : Value) (W R C : List Int) (w : World) (hP : Pt w L Q b cap bm mm T rv W R (colF W C)) (hI : TInv W0 R0 ⟨W, R, C⟩) (hT : T + 3000 ≤ 1000000000) :
    Calls Try.prog 35 #[.pointer (some ⟨Q, 0, none⟩)] w (OpAns L Q (T + 3000) ⟨W, R, scanC W C⟩ w) := by
  have hf := fine_of hI.may
  have hl : W.length ≤ 2000 := hf.few
  have hu : unfit W 2 = none := hf.fit
  have hC : C.length = W.length + 1 := hI.len
  have hA := tall_any L Q b cap bm mm T rv W R C 1 w hP hu hl
  have ls := hP.low'
  cases ho : ofCol W C 1 with
  | nil =>
    rw [ho] at hA
    have HE : Hid (scanC W C = C) := tscan_none ho
    clear ho
    go_enter Try.func35, Try.ntmps35
    go_wp2_with (first | (go_at_call 40; refine hA.mono ?_; rintro e w1 ⟨⟨ad, c, rfl, hown1⟩, hb1⟩))
    go_end0
    rw [HE.out]
    exact ⟨rfl, ⟨b, cap, bm, mm, rv, (hP.same hb1).up (by omega)⟩, hb1.mono ls⟩
  | cons p r =>
    rw [ho] at hA
    obtain ⟨hmem, hone, he⟩ := tscan_some ho
    have HE : Hid (scanC W C = (shadeL C (leadsAt W p)).set p 2) := he
    have hpg := (place_ge hmem).2
    have ht := ref_thing hl hmem
    have hsl : (slotsOf W p).length ≤ 2000 := by unfold slotsOf; rw [List.length_take, List.length_drop]; omega
    have hll : (leadsAt W p).length ≤ 2001 := by have := leads_length (W := W) (p := p); omega
    have hlen : 0 < (refs (p :: r)).length := by simp [refs]
    have hw0 : wd (refs (p :: r)) 0 = 2 * (p : Int) := rfl
    have Hbl : Hid ((fun k => if k = 2 * (p : Int) then some 2 else colF W (shadeL C (leadsAt W p)) k) = colF W ((shadeL C (leadsAt W p)).set p 2)) := col_black hl hmem (by rw [shadeL_length, hC]; omega)
    have hwp : (Lit.int .i64 (2 * (p : Int))).wf = true := by go_wf
    have hw2 : (Lit.int .i64 2).wf = true := by decide
    clear ho he hone
    generalize refs (p :: r) = ps at *
    have hii : (0 : Int) < (ps.length : Int) := by omega
    have hn0 : ((ps.length : Int) == 0) = false := by rw [beq_eq_false_iff_ne]; omega
    go_enter Try.func35, Try.ntmps35
    go_wp2_with (first
      | (go_at_call 40; refine hA.mono ?_; rintro e w1 ⟨⟨ad, c, rfl, hown1⟩, hb1⟩; obtain ⟨g, cg, hsh, hge, hown0⟩ := own_shape hown1 (fun e => by injection e with _ h1 _; omega); simp only [Value.slice.injEq, true_and] at hsh; obtain ⟨rfl, rfl⟩ := hsh; have hcl := own_cell hown0 hlen; rw [hw0] at hcl; have hgl := own_lt hown0; have hP1 := hP.same hb1; have u0 := hP1.q0; have u1 := hP1.q1; have hq1 := hP1.lt)
      | (go_at_call 44; refine (vlook_any W b cap bm p _ hP1.view hu hl ht hmem).mono ?_; rintro e w2 ⟨⟨v2, rfl, hs2⟩, hb2⟩; have hP2 := hP1.same hb2)
      | (go_at_call 43; refine (leads_any W p _ v2 _ hs2 hsl).mono ?_; rintro e w3 ⟨⟨g3, c3, rfl, hg3, hown3⟩, hb3⟩; have hP3 := hP2.same hb3; have hml := hP2.map.lt)
      | (go_at_call 34; refine (tshade_some L Q b cap bm mm T rv W R C (leadsAt W p) g3 0 c3 _ hP3 hC ⟨own_lt hown3, fun k hk => by rw [Nat.zero_add]; exact own_cell hown3 hk, leads_wf hP3.view.wf⟩ (by omega) (by omega)).mono ?_; rintro e w4 ⟨rfl, hP4, hB4⟩; have x3 := hP4.q3; have hq4 := hP4.lt; obtain ⟨n, D, hD, hDn, hDh, hDa⟩ := hP4.map)
      | (at_mapUpdate; refine wpList_mapUpdate_own _ rfl _ _ _ 44 rfl 3 3 key3 ty59 (plainElem Try.prog 3) mm n D rfl hD (by unfold maxLen; omega) _ _ _ rfl rfl (keyOf_int_mk ty3 hwp) _ [] (plainElem_int ty3 hw2) ?_; intro w7 hm7 hg7))
    have hput := IntMap.put hD hDn hDh hDa hm7
    rw [Hbl.out] at hput
    obtain ⟨hP7, hB7⟩ := hP4.mapped hput hg7
    have hb13 : Below L w w3 := ((hb1.mono ls).trans (hb2.mono (Nat.le_trans ls hb1.size))).trans (hb3.mono (Nat.le_trans (Nat.le_trans ls hb1.size) hb2.size))
    go_end0
    rw [HE.out]
    exact ⟨rfl, ⟨b, cap, bm, mm, rv, hP7.up (by omega)⟩, (hb13.trans hB4).trans hB7⟩
end Go.Proofs.Ythdhaokjibfjdaa
