/- Several texts in one. -/
import Derived.Test.YtkppdndbfedijadGreatDoorMe
/- gessoref9: rows of kids that grow; what a call reads. -/
namespace Go.Proofs.YtkppdndbfedijadGreatDoor
open Go.RowKit

theorem infoNode : (Tryz.prog.info? 24).map (fun i => (i.zero, i.size, i.bytes)) = some (some (.agg #[.int .i64 0, .string ⟨#[]⟩, .int .i64 0, .slice none 0 0]), 4, 56) := by kernel_rfl
theorem nodeE : Elem 22 24 4 56 := by
  obtain ⟨i, hi, h0, h1, h2⟩ := info_parts infoNode
  exact ⟨by kernel_rfl, ⟨i, _, hi, h0, h1, h2, by rfl⟩, by decide, by decide⟩
/-- A row of one's own of nodes; what they lead to lies in M, and not in that row. -/
structure KRow (w : World) (BB : Nat) (M : Nat → Prop) (g cap : Nat) (l : List (Nd × Value)) : Prop where
  own : w.ownsRow BB 24 4 (sl g l.length cap) l.length (nodesV l)
  kids : ∀ z ∈ l, KidsV w (fun k => M k ∧ k ≠ g) z.2 z.1.kids
theorem KRow.lt {w : World} {BB g cap : Nat} {M : Nat → Prop} {l : List (Nd × Value)} (h : KRow w BB M g cap l) : BB ≤ g ∧ g < w.heap.size := h.own.lt g rfl
theorem KRow.grown {w w' : World} {BB g cap Q : Nat} {M : Nat → Prop} {l : List (Nd × Value)} (h : KRow w BB M g cap l) (hg : w.grownBy w' (some Q)) (hq : Q ≠ g) (hm : ¬ M Q) : KRow w' BB M g cap l :=
  ⟨h.own.kept hg (Or.inr (by intro e; injection e with e; exact hq e.symm)), fun z hz => (h.kids z hz).above (Above.grown hg (fun k e => by injection e with e; rintro ⟨h1, _⟩; exact hm (by rw [e]; exact h1)))⟩
theorem KRow.alloc {w : World} {BB g cap : Nat} {M : Nat → Prop} {l : List (Nd × Value)} (h : KRow w BB M g cap l) (o : Obj) : KRow (w.alloc o) BB M g cap l :=
  ⟨h.own.alloc o, fun z hz => (h.kids z hz).above (Above.grown (World.grownBy_alloc _ _ none) (fun k e => by cases e))⟩
theorem KRow.first {w : World} {BB : Nat} {M : Nat → Prop} {n : Nd} {a b c d : Value} (h : NodeV w M (.agg #[a, b, c, d]) n) (hB : BB ≤ w.heap.size) : ∃ x, [a, b, c, d] = nodeV n x ∧ KRow (w.alloc (.cells #[a, b, c, d] 24)) BB M w.heap.size 1 [(n, x)] := by
  obtain ⟨x, hv, hk⟩ := h
  simp only [Value.agg.injEq] at hv
  have e : [a, b, c, d] = nodeV n x := by
    have := congrArg Array.toList hv
    simpa using this
  refine ⟨x, e, ⟨?_, .inr ⟨w.heap.size, 1, #[a, b, c, d], rfl, hB, heap_alloc_new w _, Nat.le_refl _, by decide, rfl, ?_⟩⟩, ?_⟩
  · rfl
  · show [a, b, c, d] = _
    rw [e]
    simp [nodesV]
  · intro z hz
    simp only [List.mem_singleton] at hz
    subst hz
    exact (hk.mono (fun k h1 h2 => ⟨h1, by omega⟩)).above (Above.grown (World.grownBy_alloc _ _ none) (fun k e => by cases e))
/-- One more. -/
theorem KRow.snoc {w w' : World} {BB g cap g' cap' : Nat} {M : Nat → Prop} {l : List (Nd × Value)} (h : KRow w BB M g cap l) {n : Nd} {x : Value} (hx : KidsV w (fun k => M k ∧ k ≠ g) x n.kids) (ho : w'.ownsRow BB 24 4 (sl g' (l.length + 1) cap') (l.length + 1) (nodesV l ++ nodeV n x)) (hg : w.grownBy w' (some g)) (hor : (some g : Option Nat) = some g' ∨ g' = w.heap.size) : KRow w' BB M g' cap' (l ++ [(n, x)]) := by
  have hmono : ∀ (v : Value) (ks : List Nd), KidsV w (fun k => M k ∧ k ≠ g) v ks → KidsV w' (fun k => M k ∧ k ≠ g') v ks := fun v ks hk =>
    (hk.mono (M' := fun k => (M k ∧ k ≠ g') ∧ k ≠ g) (fun k h1 h2 => ⟨⟨h1.1, by
      rcases hor with e | e
      · injection e with e; rw [← e]; exact h1.2
      · omega⟩, h1.2⟩)).above (Above.grown hg (fun k e => by injection e with e; rintro ⟨_, h1⟩; exact h1 e.symm)) |>.mono (fun k h1 _ => h1.1)
  refine ⟨?_, ?_⟩
  · rw [nodesV_snoc, List.length_append]
    exact ho
  · intro z hz
    rcases List.mem_append.1 hz with hz | hz
    · exact hmono _ _ (h.kids z hz)
    · simp only [List.mem_singleton] at hz
      subst hz
      exact hmono _ _ hx
theorem KRow.kidsV {w : World} {BB g cap : Nat} {M : Nat → Prop} {l : List (Nd × Value)} (h : KRow w BB M g cap l) (hg : M g) : KidsV w M (sl g l.length cap) (l.map Prod.fst) :=
  KidsV.of_own h.own (fun k e => by injection e with e; rw [← e]; exact hg) (fun z hz => (h.kids z hz).mono (fun k h1 _ => h1.1))
/-- Kids that were read behind a node, or any. -/
def KidsG (w : World) (M : Nat → Prop) (v : Value) (nd : Nd) (g : Got (List Nd)) : Prop := match g with
  | .ok (ks, _) => KidsV w M v (nd :: ks)
  | .error _ => ∃ ad n c, v = .slice ad n c
theorem KidsG.slice {w : World} {M : Nat → Prop} {v : Value} {nd : Nd} {g : Got (List Nd)} (h : KidsG w M v nd g) : ∃ ad n c, v = .slice ad n c := by
  match g, h with
  | .ok (ks, _), h => obtain ⟨ad, c, hv, _⟩ := h; exact ⟨ad, _, c, hv⟩
  | .error _, h => exact h
theorem KidsG.above {w w' : World} {M : Nat → Prop} {v : Value} {nd : Nd} {g : Got (List Nd)} (h : KidsG w M v nd g) (ha : Above M w w') : KidsG w' M v nd g := by
  match g, h with
  | .ok (ks, _), h => exact KidsV.above h ha
  | .error _, h => exact h
/-- The arguments of a call. -/
def argsG (S : Src9) (s : PS) : Got (List Nd) := if seesB S sShut s = true then .ok ([], s) else argsC S s
/-- What comes behind a dot. -/
theorem call_next {w : World} {M : Nat → Prop} {S : Src9} {nd : Nd} {g1 : Got (List Int)} {GA : Got (List Nd)} {G : Got Nd} {tx : ByteArray} {v7 : Value} {lo i : Nat}
    (htx : TextG (.string tx) g1) (hGA : GA = bindS (stOf (bindS (stOf g1) (wantP S sOpen))) (argsG S)) (hk : KidsG w M v7 nd GA)
    (hG : G = g1.then fun x s => (wantP S sOpen s).then fun _ s => (argsG S s).then fun ks s => (wantP S sShut s).then fun _ s => callLC S (.mk 25 x 0 (nd :: ks)) s.node)
    (hi : ∀ s4 s5, stOf GA = .ok s4 → wantP S sShut s4 = .ok ((), s5) → i + 1 ≤ s5.tok ∧ lo ≤ s5.tok) :
    Loop9 w M (.agg #[.int .i64 25, .string tx, .int .i64 0, v7]) G (callLC S) lo (nodeS (stOf (bindS (stOf GA) (wantP S sShut)))) (i + 1) := by
  have hany : AnyN (.agg #[.int .i64 25, .string tx, .int .i64 0, v7]) := by
    obtain ⟨ad, n, c, rfl⟩ := hk.slice
    exact ⟨_, _, _, _, _, _, rfl⟩
  match g1, htx, hGA, hG with
  | .error e, htx, hGA, hG =>
    subst hGA
    exact ⟨hG, hany⟩
  | .ok (x, s2), htx, hGA, hG =>
    have e : Value.string tx = .string (strOfNums x) := htx
    injection e with e
    subst e
    rw [then_ok] at hG
    rw [stOf_ok, bindS_ok] at hGA
    cases hw : wantP S sOpen s2 with
    | error e =>
      rw [hw] at hGA hG
      subst hGA
      exact ⟨hG, hany⟩
    | ok y =>
      obtain ⟨⟨⟩, s3⟩ := y
      rw [hw] at hGA hG
      rw [then_ok] at hG
      rw [stOf_ok, bindS_ok] at hGA
      rw [← hGA] at hG
      match GA, hk, hG, hi with
      | .error e, hk, hG, hi => exact ⟨hG, hany⟩
      | .ok (ks, s4), hk, hG, hi =>
        rw [then_ok] at hG
        rw [stOf_ok, bindS_ok]
        cases hw2 : wantP S sShut s4 with
        | error e => rw [hw2] at hG; exact ⟨hG, hany⟩
        | ok z =>
          obtain ⟨⟨⟩, s5⟩ := z
          rw [hw2, then_ok] at hG
          obtain ⟨h1, h2⟩ := hi s4 s5 rfl hw2
          exact ⟨⟨.mk 25 x 0 (nd :: ks), (show NodeV w M _ (.mk 25 x 0 (nd :: ks)) from ⟨v7, rfl, hk⟩), hG⟩, h1, h2⟩
/-- Arguments so far, and what is still to come. -/
theorem args_more {S : Src9} {GA : Got (List Nd)} {acc : List Nd} {s : PS} (h : GA = (argsC S s).then fun ks s => .ok (acc ++ ks, s)) : GA = (exprC S s).then fun k s => if seesB S sComma s = true then (argsC S s.step).then fun ks s => .ok ((acc ++ [k]) ++ ks, s) else .ok (acc ++ [k], s) := by
  rw [h, args_eq]
  cases exprC S s with
  | error e => rfl
  | ok x =>
    obtain ⟨k, s1⟩ := x
    rw [then_ok, then_ok]
    by_cases hc : seesB S sComma s1 = true
    · rw [if_pos hc, if_pos hc]
      cases argsC S s1.step with
      | error e => rfl
      | ok y =>
        obtain ⟨ks, s2⟩ := y
        rw [then_ok, then_ok, then_ok, List.append_assoc]
        rfl
    · rw [if_neg hc, if_neg hc, then_ok]
end Go.Proofs.YtkppdndbfedijadGreatDoor

/- gessoref9: call. -/
namespace Go.Proofs.YtkppdndbfedijadGreatDoor
open Go.RowKit

theorem Box4.past {w w' : World} {R r : Nat} {a b c d : Value} (h : Box4 w R a b c d) (hg : w.grownBy w' (some r)) (hr : R ≠ r) : Box4 w' R a b c d := (hg.block R h.lt (fun e => hr (by injection e))).trans h
theorem four_new (w : World) (o : Obj) (a b c d : Value) (T : TypeId) : ∀ j u, [a, b, c, d][j]? = some u → ((w.alloc o).alloc (.cells #[a, b, c, d] T)).cell? ((⟨w.heap.size + 1, 0, none⟩ : Addr).add j) = some u := fun j u h => by
  rw [add_plain, show w.heap.size + 1 = (w.alloc o).heap.size by simp, World.cell?_alloc_at _ _ _ _ rfl, Nat.zero_add]
  simpa using h
theorem four_one (a : Int) (b : ByteArray) (c : Int) (ad : Option Addr) (n cc : Nat) : ∀ u ∈ [Value.int .i64 a, .string b, .int .i64 c, .slice ad n cc], u.oneCell' = true := fun u hu => by
  simp at hu
  rcases hu with rfl | rfl | rfl | rfl <;> rfl
theorem below_two (w : World) (x y : Obj) {B : Nat} (h : B ≤ w.heap.size) : Below B w ((w.alloc x).alloc y) := ((Below.refl _ _).alloc h _).alloc (by simp; omega) _
theorem KRow.more {w w7 : World} {BB g cap g' cap' : Nat} {M M0 : Nat → Prop} {l : List (Nd × Value)} {kn : Nd} {s4 : PS} {a : Int} {b : ByteArray} {c : Int} {ad : Option Addr} {n cc : Nat} {o o' : Obj} (h : KRow w BB M g cap l) (hv : ValG w M0 (.agg #[.int .i64 a, .string b, .int .i64 c, .slice ad n cc]) (.ok (kn, s4))) (hm : ∀ k, M0 k → k < w.heap.size → M k ∧ k ≠ g)
    (O7 : w7.ownsRow BB 24 4 (sl g' (l.length + 1) cap') (l.length + 1) (nodesV l ++ [.int .i64 a, .string b, .int .i64 c, .slice ad n cc])) (hg7 : ((w.alloc o).alloc o').grownBy w7 (some g)) (hor : (some g : Option Nat) = some g' ∨ g' = ((w.alloc o).alloc o').heap.size) : ∃ x, [.int .i64 a, .string b, .int .i64 c, .slice ad n cc] = nodeV kn x ∧ KRow w7 BB M g' cap' (l ++ [(kn, x)]) := by
  obtain ⟨x, hx, hk⟩ := hv
  simp only [Value.agg.injEq] at hx
  have e : [.int .i64 a, .string b, .int .i64 c, .slice ad n cc] = nodeV kn x := by
    have := congrArg Array.toList hx
    simpa using this
  refine ⟨x, e, ((h.alloc o).alloc o').snoc ?_ (by rw [← e]; exact O7) hg7 hor⟩
  exact ((hk.mono hm).above (Above.grown (World.grownBy_alloc _ _ none) (fun k e => by cases e))).above (Above.grown (World.grownBy_alloc _ _ none) (fun k e => by cases e))
/-- Where the arguments of a call are: all read, or some, or none. -/
def InnerC (w : World) (BB : Nat) (M : Nat → Prop) (g cap m : Nat) (nd : Nd) (GA : Got (List Nd)) (S : Src9) (st3 : St9) (isb : Bool) (j lo2 : Nat) : Prop :=
  (KidsG w M (sl g m cap) nd GA ∧ stOf GA = st3 ∧ j = 0 ∧ ((isb = true ∧ ∃ s, st3 = .ok s) ∨ (isb = false ∧ ∃ e, st3 = .error e))) ∨
  (isb = false ∧ ∃ (s3 : PS) (acc : List Nd) (l : List (Nd × Value)), st3 = .ok s3 ∧ GA = ((argsC S s3).then fun ks s => .ok (acc ++ ks, s)) ∧ KRow w BB M g cap l ∧ m = l.length ∧ l.map Prod.fst = nd :: acc ∧ j ≤ s3.tok ∧ lo2 ≤ s3.tok ∧ s3.tok ≤ S.L.length ∧ l.length ≤ j + 1)
theorem innerC_first {w : World} {BB g : Nat} {M : Nat → Prop} {nd : Nd} {S : Src9} {st2 : St9} {lo2 : Nat} {x : Value} (h : KRow w BB M g 1 [(nd, x)]) (hg : M g) (hb : ∀ s, st2 = .ok s → lo2 ≤ s.tok ∧ s.tok ≤ S.L.length) : InnerC w BB M g 1 1 nd (bindS st2 (argsG S)) S st2 (seesS S sShut st2) 0 lo2 := by
  match st2, hb with
  | .error e, _ => exact Or.inl ⟨⟨_, _, _, rfl⟩, rfl, rfl, Or.inr ⟨rfl, e, rfl⟩⟩
  | .ok s, hb =>
    obtain ⟨h1, h2⟩ := hb s rfl
    by_cases hs : seesB S sShut s = true
    · refine Or.inl ⟨?_, ?_, rfl, Or.inl ⟨hs, s, rfl⟩⟩
      · show KidsG w M _ nd (argsG S s)
        unfold argsG
        rw [if_pos hs]
        exact h.kidsV hg
      · show stOf (argsG S s) = _
        unfold argsG
        rw [if_pos hs]
        rfl
    · have hs' : seesB S sShut s = false := by simpa using hs
      refine Or.inr ⟨hs', s, [], [(nd, x)], rfl, ?_, h, rfl, rfl, Nat.zero_le _, h1, h2, by simp⟩
      show argsG S s = _
      unfold argsG
      rw [if_neg hs]
      cases argsC S s with
      | error e => rfl
      | ok y => rfl
set_option maxRecDepth 20000 in
set_option maxHeartbeats 16000000 in
theorem call_reads (Q B : Nat) (v : Value) (S : Src9) (st : St9)
    (h1 : Reads9 210 (primC S) Q B v S st)
    (h2 : ∀ s : PS, low9 st ≤ s.tok → s.tok ≤ S.L.length → Reads9 149 (exprC S) Q B v S (.ok s)) : Reads9 203 (callC S) Q B v S st := by
  intro w hp
  have hRB := hp.size
  have hqb := hp.qb
  have hfew := hp.few
  obtain ⟨vad, vc, hv0, _⟩ := hp.toks
  subst hv0
  have HPA : Hid (Par (w.alloc zeroN) Q B (.slice vad S.L.length vc) S st) := hp.below ((Below.refl _ w).alloc (Nat.le_refl _) _)
  have HX : Hid (Box4 (w.alloc zeroN) w.heap.size (.int .i64 0) (.string ⟨#[]⟩) (.int .i64 0) (.slice none 0 0)) := Box4.new _ _ _ _ _
  have e1 : nums ⟨#[46]⟩ = sDot := by decide
  have hbg : ∀ st' w', Par w' Q B (.slice vad S.L.length vc) S st' → Calls Tryz.prog 147 #[.pointer (some ⟨Q, 0, none⟩), .string ⟨#[46]⟩] w' fun e w'' => e = .returned (.bool (seesS S sDot st')) ∧ Par w'' Q B (.slice vad S.L.length vc) S (stepS S sDot st') ∧ w'.grownBy w'' (some Q) := fun st' w' h' => by have := begins_any9 Q B _ S st' ⟨#[46]⟩ w' h'; rw [e1] at this; exact this
  have HG : bindS st (callC S) = (bindS st (primC S)).then (callLC S) := by
    match st with
    | .error e => rfl
    | .ok s => exact call_eq S s
  have HT : Hid (∀ n s1, bindS st (primC S) = .ok (n, s1) → low9 st ≤ s1.tok) := fun n s1 e => by
    match st, e with
    | .ok s, e => exact (prim_at e).1
  rw [HG]
  have h1' : Hid (∀ w, Par w Q B (.slice vad S.L.length vc) S st → Calls Tryz.prog 210 #[.pointer (some ⟨Q, 0, none⟩)] w fun e w' => (∃ u, e = .returned u ∧ ValG w' (From w.heap.size) u (bindS st (primC S))) ∧ Par w' Q B (.slice vad S.L.length vc) S (stOf (bindS st (primC S))) ∧ w.grownBy w' (some Q)) := h1
  have H2 : Hid (∀ s : PS, low9 st ≤ s.tok → s.tok ≤ S.L.length → Reads9 149 (exprC S) Q B (.slice vad S.L.length vc) S (.ok s)) := h2
  clear h1 h2 HG hp
  generalize low9 st = lo at HT H2
  generalize bindS st (primC S) = g0 at *
  obtain ⟨G, hGG⟩ : ∃ G, G = g0.then (callLC S) := ⟨_, rfl⟩
  rw [← hGG]
  have HGG : Hid (G = g0.then (callLC S)) := hGG
  clear hGG
  go_enter Tryz.func203, Tryz.ntmps203
  go_wp2_with (first
    | (go_at_call 210; refine (h1'.out _ HPA.out).mono ?_; rintro e w1 ⟨⟨u, rfl, hv⟩, hp1, hg1⟩; obtain ⟨a, b, c, ad, n, cc, hu'⟩ := hv.any; subst hu'; have hX1 := HX.out.grown hg1 (by omega)))
  have sz1 : w.heap.size < w1.heap.size := by have := hg1.size; simp at this; omega
  have HL0 : Hid (Loop9 (w1.alloc (.cells #[.int .i64 a, .string b, .int .i64 c, .slice ad n cc] 24)) (Off w.heap.size w1.heap.size) (.agg #[.int .i64 a, .string b, .int .i64 c, .slice ad n cc]) G (callLC S) lo (stOf g0) 0) := by
    rw [HGG.out]
    exact Loop9.first ((hv.mono (fun k hk hlt => ⟨by have hk' : (w.alloc zeroN).heap.size ≤ k := hk; simp at hk'; omega, by omega⟩)).above (Above.grown (World.grownBy_alloc _ _ none) (fun k e => by cases e))) HT.out
  have HP0 : Hid (Par (w1.alloc (.cells #[.int .i64 a, .string b, .int .i64 c, .slice ad n cc] 24)) Q B (.slice vad S.L.length vc) S (stOf g0)) := hp1.below ((Below.refl _ _).alloc (Nat.le_refl _) _)
  have HN0 : Hid (Box4 (w1.alloc (.cells #[.int .i64 a, .string b, .int .i64 c, .slice ad n cc] 24)) w1.heap.size (.int .i64 a) (.string b) (.int .i64 c) (.slice ad n cc)) := Box4.new _ _ _ _ _
  have HX0 : Hid (Box4 (w1.alloc (.cells #[.int .i64 a, .string b, .int .i64 c, .slice ad n cc] 24)) w.heap.size (.int .i64 0) (.string ⟨#[]⟩) (.int .i64 0) (.slice none 0 0)) := hX1.alloc _
  have HG0 : Hid (w.grownBy (w1.alloc (.cells #[.int .i64 a, .string b, .int .i64 c, .slice ad n cc] 24)) (some Q)) := ((World.grownBy_alloc w zeroN (some Q)).trans hg1).trans (World.grownBy_alloc _ _ _)
  generalize w1.alloc (.cells #[.int .i64 a, .string b, .int .i64 c, .slice ad n cc] 24) = W0 at *
  have HNL : Hid (w.heap.size ≤ w1.heap.size) := Nat.le_of_lt sz1
  have HNR : Hid (w1.heap.size ≠ w.heap.size) := (by show w1.heap.size ≠ w.heap.size; omega)
  generalize hNN : w1.heap.size = N at *
  generalize stOf g0 = st0 at *
  clear hv hp1 hg1 hX1 hNN HT HGG
  go_loopw [4] (fun s4 wr => ∃ (i : Nat) (st1 : St9) (a : Int) (b : ByteArray) (c : Int) (ad : Option Addr) (n cc : Nat), s4 = .int .i64 i ∧ i ≤ 4001 ∧ Hid (Par wr Q B (.slice vad S.L.length vc) S st1) ∧ Hid (Box4 wr N (.int .i64 a) (.string b) (.int .i64 c) (.slice ad n cc)) ∧ Hid (Box4 wr w.heap.size (.int .i64 0) (.string ⟨#[]⟩) (.int .i64 0) (.slice none 0 0)) ∧ Hid (Loop9 wr (Off w.heap.size N) (.agg #[.int .i64 a, .string b, .int .i64 c, .slice ad n cc]) G (callLC S) lo st1 i) ∧ Hid (w.grownBy wr (some Q))) (fun s4 _ => 4002 - (intOf s4).toNat)
  case atStart => exact ⟨0, st0, a, b, c, ad, n, cc, rfl, by omega, HP0, HN0, HX0, HL0, HG0⟩
  case round =>
    clear HP0 HN0 HX0 HL0 HG0
    obtain ⟨i, st1, a, b, c, ad, n, cc, rfl, hi, HP, HN, HR, HL, HGr⟩ := hrel
    obtain ⟨tok, deep, many, fc, fa, ho, hf⟩ := HP.out.obj
    obtain ⟨k0, _, _, _, _, _, _⟩ := ho.cells
    obtain ⟨⟨x0, x1, x2, x3⟩, f0, f1, f2, f3⟩ := HN.out.facts
    obtain ⟨⟨y0, y1, y2, y3⟩, r0, r1, r2, r3⟩ := HR.out.facts
    have hNb := HN.out.lt
    clear ho hf
    have hb0 := hbg st1 wr HP.out
    cases hs : seesS S sDot st1 with
    | false =>
      rw [hs] at hb0
      have HD : Hid (ValG wr (Off w.heap.size N) (.agg #[.int .i64 a, .string b, .int .i64 c, .slice ad n cc]) G ∧ stOf G = st1) := HL.out.done (fun m s e => by
        subst e
        have hs' : seesB S sDot s = false := hs
        rw [callL_eq, if_neg (by rw [hs']; decide)])
      have HS : Hid (stepS S sDot st1 = st1) := by show _ = _; unfold stepS; rw [hs, if_neg (by decide)]
      rw [HS.out] at hb0
      by_cases hil : (i : Int) ≤ (S.L.length : Int)
      · clear hs HL
        go_wp2_with (first
          | (go_at_call 147; refine hb0.mono ?_; rintro e w2 ⟨rfl, hp2, hg2⟩; obtain ⟨⟨p0, p1, p2, p3⟩, _⟩ := (HN.out.grown hg2 (by omega)).facts; obtain ⟨⟨q0, q1, q2, q3⟩, s0, s1, s2, s3⟩ := (HR.out.grown hg2 (by omega)).facts))
        refine bodyPost_ret (v := .agg #[.int .i64 a, .string b, .int .i64 c, .slice ad n cc]) (by simp [results, Tryz.results203, go_sem, q0, q1, q2, q3]) rfl ⟨⟨_, rfl, ?_⟩, by rw [HD.out.2]; exact par_box hp2 hRB _ _ _ _, grown_own (HGr.out.trans hg2) (below_box (Nat.le_refl _) _ _ _ _)⟩
        exact ((HD.out.1.above (Above.grown hg2 (fun k e => by injection e with e; rintro ⟨h, _⟩; omega))).above (above_box (R := w.heap.size) (by rintro ⟨h, _⟩; omega) _ _ _ _)).mono (fun k hk _ => Nat.le_of_lt hk.1)
      · clear hs HL hb0
        go_wp2_with fail
        refine bodyPost_ret (v := .agg #[.int .i64 a, .string b, .int .i64 c, .slice ad n cc]) (by simp [results, Tryz.results203, go_sem, y0, y1, y2, y3]) rfl ⟨⟨_, rfl, ?_⟩, by rw [HD.out.2]; exact par_box HP.out hRB _ _ _ _, grown_own HGr.out (below_box (Nat.le_refl _) _ _ _ _)⟩
        exact (HD.out.1.above (above_box (R := w.heap.size) (by rintro ⟨h, _⟩; omega) _ _ _ _)).mono (fun k hk _ => Nat.le_of_lt hk.1)
    | true =>
      match st1, hs, HP, HL, hb0 with
      | .ok s1, hs, HP, HL, hb0 =>
        have hs' : seesB S sDot s1 = true := hs
        have ht := sees_lt hs'
        obtain ⟨⟨nd, hnd, hGe⟩, hi1, hlo⟩ := HL.out
        have HND : Hid (NodeV wr (Off w.heap.size N) (.agg #[.int .i64 a, .string b, .int .i64 c, .slice ad n cc]) nd) := hnd
        have HGE : Hid (G = (nameP S s1.step).then fun x s => (wantP S sOpen s).then fun _ s => (argsG S s).then fun ks s => (wantP S sShut s).then fun _ s => callLC S (.mk 25 x 0 (nd :: ks)) s.node) := by show _ = _; rw [hGe, callL_eq, if_pos hs']; rfl
        have hil : (i : Int) ≤ (S.L.length : Int) := by omega
        have hwi := wrap_id (x := (i : Int) + 1) (by omega) (by omega)
        rw [hs] at hb0
        have HS : Hid (stepS S sDot (.ok s1) = .ok s1.step) := by show _ = _; unfold stepS; rw [hs, if_pos rfl]
        rw [HS.out] at hb0
        have hnm := fun w' (h' : Par w' Q B (.slice vad S.L.length vc) S (.ok s1.step)) => name_any Q B _ S (.ok s1.step) w' h'
        rw [bindS_ok] at hnm
        have HTK : Hid (∀ x s, nameP S s1.step = .ok (x, s) → s1.tok + 2 ≤ s.tok ∧ s.tok ≤ S.L.length) := fun x s e => by
          have := (name_fine S s1.step).at e
          have e2 : s1.step.tok = s1.tok + 1 := rfl
          omega
        have HNL2 : Hid (w.heap.size ≤ N) := HNL
        clear hs hs' HL hnd hGe
        generalize nameP S s1.step = g1 at *
        have hW1 := want_as (Q := Q) (B := B) (v := (.slice vad S.L.length vc)) (S := S) (x := ⟨#[40]⟩) (l := sOpen) (by decide) (stOf g1)
        obtain ⟨st2, HST2⟩ : ∃ st2, Hid (st2 = stOf (bindS (stOf g1) (wantP S sOpen))) := ⟨_, rfl⟩
        rw [← HST2.out] at hW1
        have hse := fun w' (h' : Par w' Q B (.slice vad S.L.length vc) S st2) => sees_any Q B _ S st2 ⟨#[41]⟩ w' h'
        rw [show nums ⟨#[41]⟩ = sShut by decide] at hse
        go_wp2_with (first
          | (go_at_call 147; refine hb0.mono ?_; rintro e w2 ⟨rfl, hp2, hg2⟩)
          | (go_at_call 105; refine (hnm _ hp2).mono ?_; rintro e w3 ⟨⟨xv, rfl, htx⟩, hp3, hg3⟩; obtain ⟨tx, hxv⟩ := text_string htx; subst hxv; have hgN := hg2.trans hg3; obtain ⟨⟨p0, p1, p2, p3⟩, _⟩ := (HN.out.grown hgN (by omega)).facts; have hN3 := (HN.out.grown hgN (by omega)).lt; have hp3a := hp3.below ((Below.refl _ _).alloc (Nat.le_refl _) (.cells #[.int .i64 a, .string b, .int .i64 c, .slice ad n cc] 24)))
          | (go_at_call 72; refine (hW1 _ hp3a).mono ?_; rintro e w4 ⟨rfl, hp4, hg4⟩)
          | (go_at_call 70; refine (hse _ hp4).mono ?_; rintro e w5 ⟨rfl, hb5⟩))
        have hp5 := hp4.below hb5
        have hQo : ¬ Off w.heap.size N Q := by rintro ⟨h, _⟩; omega
        have hnd3 : NodeV w3 (Off w.heap.size N) (.agg #[.int .i64 a, .string b, .int .i64 c, .slice ad n cc]) nd := HND.out.above (Above.grown hgN (fun k e => by injection e with e; rw [← e]; exact hQo))
        obtain ⟨xk, hxk0, hrow3⟩ := KRow.first hnd3 (BB := w3.heap.size) (Nat.le_refl _)
        clear hxk0
        have sR3 : w.heap.size < w3.heap.size := (HR.out.grown hgN (by omega)).lt
        have hrow5 := (hrow3.grown hg4 (by omega) hQo).grown (grown_below Q hb5) (by omega) hQo
        have hN5 := (((HN.out.grown hgN (by omega)).alloc (.cells #[.int .i64 a, .string b, .int .i64 c, .slice ad n cc] 24)).grown hg4 (by omega)).grown (grown_below Q hb5) (by omega)
        have hR5 := (((HR.out.grown hgN (by omega)).alloc (.cells #[.int .i64 a, .string b, .int .i64 c, .slice ad n cc] 24)).grown hg4 (by omega)).grown (grown_below Q hb5) (by omega)
        have hG5 : w.grownBy w5 (some Q) := (((HGr.out.trans hgN).trans (World.grownBy_alloc _ _ _)).trans hg4).trans (grown_below Q hb5)
        have hb2 : ∀ s, st2 = .ok s → s1.tok + 2 ≤ s.tok ∧ s.tok ≤ S.L.length := fun s e => by
          rw [HST2.out] at e
          match g1, HTK, e with
          | .ok (x, s'), HTK, e =>
            have h1 := HTK.out x s' rfl
            rw [stOf_ok, bindS_ok] at e
            cases hw : wantP S sOpen s' with
            | error e' => rw [hw] at e; cases e
            | ok y =>
              obtain ⟨⟨⟩, s''⟩ := y
              rw [hw] at e
              cases e
              have := (want_fine S sOpen s').at hw
              omega
        have HI0 : Hid (InnerC w5 w3.heap.size (Off w.heap.size N) w3.heap.size 1 1 nd (bindS st2 (argsG S)) S st2 (seesS S sShut st2) 0 (s1.tok + 2)) := innerC_first hrow5 ⟨sR3, by omega⟩ hb2
        obtain ⟨GA, HGA⟩ : ∃ GA, Hid (GA = bindS st2 (argsG S)) := ⟨_, rfl⟩
        have HGB : Hid (∀ s4, stOf GA = .ok s4 → s1.tok + 2 ≤ s4.tok) := fun s4 e => by
          rw [HGA.out] at e
          match st2, hb2, e with
          | .ok s2, hb2, e =>
            have h1 := hb2 s2 rfl
            rw [bindS_ok] at e
            unfold argsG at e
            split at e
            · cases e; exact h1.1
            · cases ha : argsC S s2 with
              | error e' => rw [ha] at e; cases e
              | ok y =>
                obtain ⟨ks, s'⟩ := y
                rw [ha] at e
                cases e
                have := (args_at ha).1
                omega
        rw [← HGA.out] at HI0
        have HGA2 : Hid (GA = bindS (stOf (bindS (stOf g1) (wantP S sOpen))) (argsG S)) := by show _ = _; rw [HGA.out, HST2.out]
        have HTX : Hid (TextG (.string tx) g1) := htx
        have HP5 : Hid (Par w5 Q B (.slice vad S.L.length vc) S st2) := hp5
        have HN5 : Hid (Box4 w5 N (.int .i64 a) (.string b) (.int .i64 c) (.slice ad n cc)) := hN5
        have HR5 : Hid (Box4 w5 w.heap.size (.int .i64 0) (.string ⟨#[]⟩) (.int .i64 0) (.slice none 0 0)) := hR5
        have HG5 : Hid (w.grownBy w5 (some Q)) := hG5
        have HB3 : Hid (w.heap.size < w3.heap.size ∧ N < w3.heap.size) := ⟨sR3, hN3⟩
        have hW2 := want_as (Q := Q) (B := B) (v := (.slice vad S.L.length vc)) (S := S) (x := ⟨#[41]⟩) (l := sShut) (by decide) (stOf GA)
        have hcm := fun st' w' (h' : Par w' Q B (.slice vad S.L.length vc) S st') => sees_any Q B _ S st' ⟨#[44]⟩ w' h'
        rw [show nums ⟨#[44]⟩ = sComma by decide] at hcm
        have HHI : Hid (∀ s4 s5, stOf GA = .ok s4 → wantP S sShut s4 = .ok ((), s5) → i + 1 ≤ s5.tok ∧ lo ≤ s5.tok) := fun s4 s5 e1 e2 => by
          have h1 := HGB.out s4 e1
          have h2 := ((want_fine S sShut s4).at e2).1
          omega
        clear hW1 hse hnm hp2 hg2 htx hp3 hg3 hgN hp3a hp4 hg4 hb5 hp5 hnd3 hrow3 hrow5 hN5 hR5 hG5 hb2 HND HGA HST2 HTK hb0 HP HN HR HGr p0 p1 p2 p3 k0 x0 x1 x2 x3 f0 f1 f2 f3 y0 y1 y2 y3 r0 r1 r2 r3 hNb hbg HGB
        generalize seesS S sShut st2 = isb0 at *
        generalize w3.heap.size = BB at *
        go_loopw [5, 7, 8] (fun s5 s7 s8 wr => ∃ (j : Nat) (st3 : St9) (isb : Bool) (g cap m : Nat), s5 = .bool isb ∧ s7 = sl g m cap ∧ s8 = .int .i64 j ∧ j ≤ 4001 ∧ Hid (Par wr Q B (.slice vad S.L.length vc) S st3) ∧ Hid (Box4 wr N (.int .i64 a) (.string b) (.int .i64 c) (.slice ad n cc)) ∧ Hid (Box4 wr w.heap.size (.int .i64 0) (.string ⟨#[]⟩) (.int .i64 0) (.slice none 0 0)) ∧ Hid (w.grownBy wr (some Q)) ∧ Hid (InnerC wr BB (Off w.heap.size N) g cap m nd GA S st3 isb j (s1.tok + 2))) (fun _ _ s8 _ => 4002 - (intOf s8).toNat)
        case atStart => exact ⟨0, st2, isb0, BB, 1, 1, rfl, rfl, rfl, by omega, HP5, HN5, HR5, HG5, HI0⟩
        case round =>
          clear HP5 HN5 HR5 HG5 HI0
          obtain ⟨j, st3, isb, g, cap, m, rfl, rfl, rfl, hj, HP, HN, HR, HGr, HI⟩ := hrel
          rcases HI.out with ⟨hkg, hst, hj0, hor⟩ | ⟨hib, s3, acc, l, hst, hga, hrow, hml, hmap, hj3, hlo3, hle3, hll⟩
          · have HK : Hid (KidsG wr (Off w.heap.size N) (sl g m cap) nd GA) := hkg
            subst hj0
            rw [← hst] at HP hor
            rcases hor with ⟨rfl, s, hs⟩ | ⟨rfl, e, he⟩
            · have HPF : Hid (Par wr Q B (.slice vad S.L.length vc) S (stOf GA)) := HP
              have HNF : Hid (Box4 wr N (.int .i64 a) (.string b) (.int .i64 c) (.slice ad n cc)) := HN
              have HRF : Hid (Box4 wr w.heap.size (.int .i64 0) (.string ⟨#[]⟩) (.int .i64 0) (.slice none 0 0)) := HR
              have HGF : Hid (w.grownBy wr (some Q)) := HGr
              have HKF : Hid (KidsG wr (Off w.heap.size N) (sl g m cap) nd GA) := HK
              obtain ⟨tok, deep, many, fc, fa, ho, hf⟩ := HP.out.obj
              obtain ⟨k0, _, _, _, _, k5, _⟩ := ho.cells
              clear ho hf hs hkg hst
              go_wp2_with (first
                | (go_at_call 72; refine (hW2 _ HPF.out).mono ?_; rintro e wA ⟨rfl, hpA, hgA⟩)
                | (go_at_call 74; refine (node_any Q B _ S _ _ _ _ ⟨_, _, _, rfl⟩ _ hpA).mono ?_; rintro e wB ⟨rfl, hpB, hgB⟩; have hgAB := hgA.trans hgB; have hNB := HNF.out.grown hgAB (by have := HNL2.out; omega); obtain ⟨⟨m0, m1, m2, m3⟩, o0, o1, o2, o3⟩ := hNB.facts))
              have hNR : N ≠ w.heap.size := HNR.out
              have hRB' := HRF.out.grown hgAB (by omega)
              have hend := call_next HTX.out HGA2.out (HKF.out.above ((Above.grown hgAB (fun k e => by injection e with e; rintro ⟨h, _⟩; omega)).trans (above_box (R := N) (by rintro ⟨_, h⟩; exact h rfl) (.int .i64 25) (.string tx) (.int .i64 0) (sl g m cap)))) HGE.out HHI.out
              exact ⟨⟨i + 1, _, 25, tx, 0, some ⟨g, 0, none⟩, m, cap, by simp, by omega, par_box hpB (by have := HNL2.out; omega) _ _ _ _, hNB.put _ _ _ _, hRB'.other hNR _ _ _ _, hend, grown_own (HGF.out.trans hgAB) (below_box HNL2.out _ _ _ _)⟩, by simp [intOf]; omega⟩
            · have HPF : Hid (Par wr Q B (.slice vad S.L.length vc) S (stOf GA)) := HP
              have HNF : Hid (Box4 wr N (.int .i64 a) (.string b) (.int .i64 c) (.slice ad n cc)) := HN
              have HRF : Hid (Box4 wr w.heap.size (.int .i64 0) (.string ⟨#[]⟩) (.int .i64 0) (.slice none 0 0)) := HR
              have HGF : Hid (w.grownBy wr (some Q)) := HGr
              have HKF : Hid (KidsG wr (Off w.heap.size N) (sl g m cap) nd GA) := HK
              obtain ⟨tok, deep, many, fc, fa, ho, hf⟩ := HP.out.obj
              obtain ⟨k0, _, _, _, _, k5, _⟩ := ho.cells
              rw [he] at hf
              obtain ⟨ec, ea⟩ := e
              obtain ⟨rfl, rfl, hfc⟩ := hf
              have hcb : (fc == 0) = false := by simpa using hfc
              clear ho he hkg hst
              go_wp2_with (first
                | (go_at_call 72; refine (hW2 _ HPF.out).mono ?_; rintro e wA ⟨rfl, hpA, hgA⟩)
                | (go_at_call 74; refine (node_any Q B _ S _ _ _ _ ⟨_, _, _, rfl⟩ _ hpA).mono ?_; rintro e wB ⟨rfl, hpB, hgB⟩; have hgAB := hgA.trans hgB; have hNB := HNF.out.grown hgAB (by have := HNL2.out; omega); obtain ⟨⟨m0, m1, m2, m3⟩, o0, o1, o2, o3⟩ := hNB.facts))
              have hNR : N ≠ w.heap.size := HNR.out
              have hRB' := HRF.out.grown hgAB (by omega)
              have hend := call_next HTX.out HGA2.out (HKF.out.above ((Above.grown hgAB (fun k e => by injection e with e; rintro ⟨h, _⟩; omega)).trans (above_box (R := N) (by rintro ⟨_, h⟩; exact h rfl) (.int .i64 25) (.string tx) (.int .i64 0) (sl g m cap)))) HGE.out HHI.out
              exact ⟨⟨i + 1, _, 25, tx, 0, some ⟨g, 0, none⟩, m, cap, by simp, by omega, par_box hpB (by have := HNL2.out; omega) _ _ _ _, hNB.put _ _ _ _, hRB'.other hNR _ _ _ _, hend, grown_own (HGF.out.trans hgAB) (below_box HNL2.out _ _ _ _)⟩, by simp [intOf]; omega⟩
          · subst hib hst hml
            have hxx := H2.out s3 (by omega) hle3
            unfold Reads9 at hxx
            rw [bindS_ok] at hxx
            have hga2 := args_more hga
            obtain ⟨many, ho, _, _, _, _⟩ := HP.out.ok
            obtain ⟨k0, _, k2, _, _, k5, _⟩ := ho.cells
            have hjl : (j : Int) ≤ (S.L.length : Int) := by omega
            have hwj := wrap_id (x := (j : Int) + 1) (by omega) (by omega)
            have hfw := HP.out.few
            have HRW : Hid (KRow wr BB (Off w.heap.size N) g cap l) := hrow
            have hgl := hrow.lt
            have hQo : ¬ Off w.heap.size N Q := by rintro ⟨h, _⟩; omega
            have hB3 := HB3.out
            have hnl2 := HNL2.out
            have hll2 : l.length ≤ 4003 := by omega
            clear ho hga hrow HI
            cases hgk : exprC S s3 with
            | error e0 =>
              rw [hgk] at hxx hga2
              have HGAE : Hid (stOf GA = .error e0 ∧ GA = .error e0) := by show _ ∧ _; rw [show GA = .error e0 from hga2]; exact ⟨rfl, rfl⟩
              have hcm0 := hcm (.error e0)
              rw [show seesS S sComma (.error e0) = false from rfl] at hcm0
              clear hgk hga2 hcm
              go_wp2_with (first
                | (go_at_call 149; refine (hxx _ HP.out).mono ?_; rintro e w6 ⟨⟨u, rfl, hv⟩, hp6, hg6⟩; obtain ⟨a', b', c', ad', n', cc', hu'⟩ := hv.any; subst hu'; have hrw6 := (HRW.out.grown hg6 (by omega) hQo))
                | (at_builtin; refine wpList_append_whereN nodeE rfl (.tmp 57) (.tmp 59) rfl BB l.length 1 (sl g l.length cap) (nodesV l) [.int .i64 a', .string b', .int .i64 c', .slice ad' n' cc'] rfl ((hrw6.alloc (.cells #[.int .i64 a', .string b', .int .i64 c', .slice ad' n' cc'] 24)).alloc (.cells #[.int .i64 a', .string b', .int .i64 c', .slice ad' n' cc'] 24)).own ⟨w6.heap.size + 1, 0, none⟩ rfl rfl (four_new _ _ _ _ _ _ _) (four_one _ _ _ _ _ _) (by omega) (by have := hg6.size; simp; omega) ?_; intro g' cap' w7 O7 hg7x hor7; have hg7 : ((w6.alloc (.cells #[.int .i64 a', .string b', .int .i64 c', .slice ad' n' cc'] 24)).alloc (.cells #[.int .i64 a', .string b', .int .i64 c', .slice ad' n' cc'] 24)).grownBy w7 (some g) := hg7x; have hb7 : Below B w6 w7 := (below_two w6 (.cells #[.int .i64 a', .string b', .int .i64 c', .slice ad' n' cc'] 24) (.cells #[.int .i64 a', .string b', .int .i64 c', .slice ad' n' cc'] 24) (by have := hg6.size; omega)).grown hg7 (by have := hg6.size; simp; omega) (fun k e => by injection e with e; omega); have hp7 := hp6.apart hb7; have hgl7 := O7.lt g' rfl)
                | (go_at_call 70; refine (hcm0 _ hp7).mono ?_; rintro e w8 ⟨rfl, hb8⟩; have HPF : Hid (Par w8 Q B (.slice vad S.L.length vc) S (stOf GA)) := (by show Par w8 Q B _ S (stOf GA); rw [HGAE.out.1]; exact hp7.below hb8); have HNF : Hid (Box4 w8 N (.int .i64 a) (.string b) (.int .i64 c) (.slice ad n cc)) := ((((HN.out.grown hg6 (by omega)).alloc _).alloc _).past hg7 (by omega)).grown (grown_below Q hb8) (by omega); have HRF : Hid (Box4 w8 w.heap.size (.int .i64 0) (.string ⟨#[]⟩) (.int .i64 0) (.slice none 0 0)) := ((((HR.out.grown hg6 (by omega)).alloc _).alloc _).past hg7 (by omega)).grown (grown_below Q hb8) (by omega); have HGF : Hid (w.grownBy w8 (some Q)) := (grown_own (HGr.out.trans hg6) ((below_two w6 (.cells #[.int .i64 a', .string b', .int .i64 c', .slice ad' n' cc'] 24) (.cells #[.int .i64 a', .string b', .int .i64 c', .slice ad' n' cc'] 24) (by have := hg6.size; have := HR.out.lt; omega)).grown hg7 (by have := hg6.size; have := HR.out.lt; simp; omega) (fun k e => by injection e with e; omega))).trans (grown_below Q hb8); have HKF : Hid (KidsG w8 (Off w.heap.size N) (sl g' (l.length + 1) cap') nd GA) := (by rw [HGAE.out.2]; exact ⟨_, _, _, rfl⟩))
                | (go_at_call 72; refine (hW2 _ HPF.out).mono ?_; rintro e wA ⟨rfl, hpA, hgA⟩)
                | (go_at_call 74; refine (node_any Q B _ S _ _ _ _ ⟨_, _, _, rfl⟩ _ hpA).mono ?_; rintro e wB ⟨rfl, hpB, hgB⟩; have hgAB := hgA.trans hgB; have hNB := HNF.out.grown hgAB (by have := HNL2.out; omega); obtain ⟨⟨m0, m1, m2, m3⟩, o0, o1, o2, o3⟩ := hNB.facts))
              have hNR : N ≠ w.heap.size := HNR.out
              have hRB' := HRF.out.grown hgAB (by omega)
              have hend := call_next HTX.out HGA2.out (HKF.out.above ((Above.grown hgAB (fun k e => by injection e with e; rintro ⟨h, _⟩; omega)).trans (above_box (R := N) (by rintro ⟨_, h⟩; exact h rfl) (.int .i64 25) (.string tx) (.int .i64 0) (sl g' (l.length + 1) cap')))) HGE.out HHI.out
              exact ⟨⟨i + 1, _, 25, tx, 0, some ⟨g', 0, none⟩, l.length + 1, cap', by simp, by omega, par_box hpB (by have := HNL2.out; omega) _ _ _ _, hNB.put _ _ _ _, hRB'.other hNR _ _ _ _, hend, grown_own (HGF.out.trans hgAB) (below_box HNL2.out _ _ _ _)⟩, by simp [intOf]; omega⟩
            | ok y =>
              obtain ⟨kn, s4⟩ := y
              have hat := expr_at hgk
              rw [hgk] at hxx hga2
              rw [then_ok] at hga2
              have hcm0 := hcm (.ok s4)
              rw [show seesS S sComma (.ok s4) = seesB S sComma s4 from rfl] at hcm0
              clear hgk hcm
              cases hcc : seesB S sComma s4 with
              | true =>
                rw [hcc] at hcm0
                rw [if_pos hcc] at hga2
                have ht4 := sees_lt hcc
                have hw4 := wrap_id (x := (s4.tok : Int) + 1) (by omega) (by omega)
                have HGA3 : Hid (GA = (argsC S s4.step).then fun ks s => .ok ((acc ++ [kn]) ++ ks, s)) := hga2
                clear hga2 hcc
                go_wp2_with (first
                  | (go_at_call 149; refine (hxx _ HP.out).mono ?_; rintro e w6 ⟨⟨u, rfl, hv⟩, hp6, hg6⟩; obtain ⟨a', b', c', ad', n', cc', hu'⟩ := hv.any; subst hu'; have hrw6 := (HRW.out.grown hg6 (by omega) hQo))
                  | (at_builtin; refine wpList_append_whereN nodeE rfl (.tmp 57) (.tmp 59) rfl BB l.length 1 (sl g l.length cap) (nodesV l) [.int .i64 a', .string b', .int .i64 c', .slice ad' n' cc'] rfl ((hrw6.alloc (.cells #[.int .i64 a', .string b', .int .i64 c', .slice ad' n' cc'] 24)).alloc (.cells #[.int .i64 a', .string b', .int .i64 c', .slice ad' n' cc'] 24)).own ⟨w6.heap.size + 1, 0, none⟩ rfl rfl (four_new _ _ _ _ _ _ _) (four_one _ _ _ _ _ _) (by omega) (by have := hg6.size; simp; omega) ?_; intro g' cap' w7 O7 hg7x hor7; have hg7 : ((w6.alloc (.cells #[.int .i64 a', .string b', .int .i64 c', .slice ad' n' cc'] 24)).alloc (.cells #[.int .i64 a', .string b', .int .i64 c', .slice ad' n' cc'] 24)).grownBy w7 (some g) := hg7x; have hb7 : Below B w6 w7 := (below_two w6 (.cells #[.int .i64 a', .string b', .int .i64 c', .slice ad' n' cc'] 24) (.cells #[.int .i64 a', .string b', .int .i64 c', .slice ad' n' cc'] 24) (by have := hg6.size; omega)).grown hg7 (by have := hg6.size; simp; omega) (fun k e => by injection e with e; omega); have hp7 := hp6.apart hb7; have hgl7 := O7.lt g' rfl)
                  | (go_at_call 70; refine (hcm0 _ hp7).mono ?_; rintro e w8 ⟨rfl, hb8⟩; have hp8 := hp7.below hb8; obtain ⟨many8, ho8, _, _, _, _⟩ := hp8.ok; obtain ⟨_, _, v2, _, _, _, _⟩ := ho8.cells; have z2 := ho8.frozen 2; clear ho8))
                obtain ⟨xk2, hxe, hrw7⟩ := KRow.more hrw6 hv (fun k hk _ => ⟨⟨by have hk' : wr.heap.size ≤ k := hk; have := HR.out.lt; omega, by have hk' : wr.heap.size ≤ k := hk; have := HN.out.lt; omega⟩, by have hk' : wr.heap.size ≤ k := hk; omega⟩) O7 hg7 hor7
                have hrw8 := hrw7.grown (grown_below Q hb8) (by omega) hQo
                have hN8 := ((((HN.out.grown hg6 (by omega)).alloc (.cells #[.int .i64 a', .string b', .int .i64 c', .slice ad' n' cc'] 24)).alloc (.cells #[.int .i64 a', .string b', .int .i64 c', .slice ad' n' cc'] 24)).past hg7 (by omega)).grown (grown_below Q hb8) (by omega)
                have hR8 := ((((HR.out.grown hg6 (by omega)).alloc (.cells #[.int .i64 a', .string b', .int .i64 c', .slice ad' n' cc'] 24)).alloc (.cells #[.int .i64 a', .string b', .int .i64 c', .slice ad' n' cc'] 24)).past hg7 (by omega)).grown (grown_below Q hb8) (by omega)
                have hG8 : w.grownBy w8 (some Q) := (grown_own (HGr.out.trans hg6) ((below_two w6 (.cells #[.int .i64 a', .string b', .int .i64 c', .slice ad' n' cc'] 24) (.cells #[.int .i64 a', .string b', .int .i64 c', .slice ad' n' cc'] 24) (by have := hg6.size; have := HR.out.lt; omega)).grown hg7 (by have := hg6.size; have := HR.out.lt; simp; omega) (fun k e => by injection e with e; omega))).trans (grown_below Q hb8)
                have hg9 := grown_set w8 Q 2 (.int .i64 ((s4.tok : Int) + 1))
                have e4 : s4.step.tok = s4.tok + 1 := rfl
                refine ⟨⟨j + 1, .ok s4.step, false, g', cap', l.length + 1, rfl, rfl, by simp, by omega, par_step hp8 ht4, hN8.grown hg9 (by omega), hR8.grown hg9 (by omega), hG8.trans hg9, Or.inr ⟨rfl, s4.step, acc ++ [kn], l ++ [(kn, xk2)], rfl, HGA3.out, hrw8.grown hg9 (by omega) hQo, by simp, by simp [hmap], by omega, by omega, by omega, by simp; omega⟩⟩, by simp [intOf]; omega⟩
              | false =>
                rw [hcc] at hcm0
                rw [if_neg (by rw [hcc]; decide)] at hga2
                have HGAE : Hid (stOf GA = .ok s4 ∧ GA = .ok (acc ++ [kn], s4)) := by show _ ∧ _; rw [hga2]; exact ⟨rfl, rfl⟩
                clear hga2 hcc
                go_wp2_with (first
                  | (go_at_call 149; refine (hxx _ HP.out).mono ?_; rintro e w6 ⟨⟨u, rfl, hv⟩, hp6, hg6⟩; obtain ⟨a', b', c', ad', n', cc', hu'⟩ := hv.any; subst hu'; have hrw6 := (HRW.out.grown hg6 (by omega) hQo))
                  | (at_builtin; refine wpList_append_whereN nodeE rfl (.tmp 57) (.tmp 59) rfl BB l.length 1 (sl g l.length cap) (nodesV l) [.int .i64 a', .string b', .int .i64 c', .slice ad' n' cc'] rfl ((hrw6.alloc (.cells #[.int .i64 a', .string b', .int .i64 c', .slice ad' n' cc'] 24)).alloc (.cells #[.int .i64 a', .string b', .int .i64 c', .slice ad' n' cc'] 24)).own ⟨w6.heap.size + 1, 0, none⟩ rfl rfl (four_new _ _ _ _ _ _ _) (four_one _ _ _ _ _ _) (by omega) (by have := hg6.size; simp; omega) ?_; intro g' cap' w7 O7 hg7x hor7; have hg7 : ((w6.alloc (.cells #[.int .i64 a', .string b', .int .i64 c', .slice ad' n' cc'] 24)).alloc (.cells #[.int .i64 a', .string b', .int .i64 c', .slice ad' n' cc'] 24)).grownBy w7 (some g) := hg7x; have hb7 : Below B w6 w7 := (below_two w6 (.cells #[.int .i64 a', .string b', .int .i64 c', .slice ad' n' cc'] 24) (.cells #[.int .i64 a', .string b', .int .i64 c', .slice ad' n' cc'] 24) (by have := hg6.size; omega)).grown hg7 (by have := hg6.size; simp; omega) (fun k e => by injection e with e; omega); have hp7 := hp6.apart hb7; have hgl7 := O7.lt g' rfl)
                  | (go_at_call 70; refine (hcm0 _ hp7).mono ?_; rintro e w8 ⟨rfl, hb8⟩; have HPF : Hid (Par w8 Q B (.slice vad S.L.length vc) S (stOf GA)) := (by show Par w8 Q B _ S (stOf GA); rw [HGAE.out.1]; exact hp7.below hb8); have HNF : Hid (Box4 w8 N (.int .i64 a) (.string b) (.int .i64 c) (.slice ad n cc)) := ((((HN.out.grown hg6 (by omega)).alloc _).alloc _).past hg7 (by omega)).grown (grown_below Q hb8) (by omega); have HRF : Hid (Box4 w8 w.heap.size (.int .i64 0) (.string ⟨#[]⟩) (.int .i64 0) (.slice none 0 0)) := ((((HR.out.grown hg6 (by omega)).alloc _).alloc _).past hg7 (by omega)).grown (grown_below Q hb8) (by omega); have HGF : Hid (w.grownBy w8 (some Q)) := (grown_own (HGr.out.trans hg6) ((below_two w6 (.cells #[.int .i64 a', .string b', .int .i64 c', .slice ad' n' cc'] 24) (.cells #[.int .i64 a', .string b', .int .i64 c', .slice ad' n' cc'] 24) (by have := hg6.size; have := HR.out.lt; omega)).grown hg7 (by have := hg6.size; have := HR.out.lt; simp; omega) (fun k e => by injection e with e; omega))).trans (grown_below Q hb8))
                  | (go_at_call 72; refine (hW2 _ HPF.out).mono ?_; rintro e wA ⟨rfl, hpA, hgA⟩)
                  | (go_at_call 74; refine (node_any Q B _ S _ _ _ _ ⟨_, _, _, rfl⟩ _ hpA).mono ?_; rintro e wB ⟨rfl, hpB, hgB⟩; have hgAB := hgA.trans hgB; have hNB := HNF.out.grown hgAB (by have := HNL2.out; omega); obtain ⟨⟨m0, m1, m2, m3⟩, o0, o1, o2, o3⟩ := hNB.facts))
                obtain ⟨xk2, hxe, hrw7⟩ := KRow.more hrw6 hv (fun k hk _ => ⟨⟨by have hk' : wr.heap.size ≤ k := hk; have := HR.out.lt; omega, by have hk' : wr.heap.size ≤ k := hk; have := HN.out.lt; omega⟩, by have hk' : wr.heap.size ≤ k := hk; omega⟩) O7 hg7 hor7
                have hrw8 := hrw7.grown (grown_below Q hb8) (by omega) hQo
                have HKF : Hid (KidsG w8 (Off w.heap.size N) (sl g' (l.length + 1) cap') nd GA) := by
                  rw [HGAE.out.2]
                  have := hrw8.kidsV ⟨by omega, by omega⟩
                  rw [List.map_append, hmap, List.length_append] at this
                  exact this
                have hNR : N ≠ w.heap.size := HNR.out
                have hRB' := HRF.out.grown hgAB (by omega)
                have hend := call_next HTX.out HGA2.out (HKF.out.above ((Above.grown hgAB (fun k e => by injection e with e; rintro ⟨h, _⟩; omega)).trans (above_box (R := N) (by rintro ⟨_, h⟩; exact h rfl) (.int .i64 25) (.string tx) (.int .i64 0) (sl g' (l.length + 1) cap')))) HGE.out HHI.out
                exact ⟨⟨i + 1, _, 25, tx, 0, some ⟨g', 0, none⟩, l.length + 1, cap', by simp, by omega, par_box hpB (by have := HNL2.out; omega) _ _ _ _, hNB.put _ _ _ _, hRB'.other hNR _ _ _ _, hend, grown_own (HGF.out.trans hgAB) (below_box HNL2.out _ _ _ _)⟩, by simp [intOf]; omega⟩
end Go.Proofs.YtkppdndbfedijadGreatDoor

/- gessoref9: expressions, all of them together. -/
namespace Go.Proofs.YtkppdndbfedijadGreatDoor

structure Six9 (Q B : Nat) (v : Value) (S : Src9) (st : St9) : Prop where
  prim : Reads9 210 (primC S) Q B v S st
  call : Reads9 203 (callC S) Q B v S st
  unary : Reads9 196 (unaryC S) Q B v S st
  term : Reads9 188 (termC S) Q B v S st
  sum : Reads9 175 (sumC S) Q B v S st
  expr : Reads9 149 (exprC S) Q B v S st
theorem six_of {Q B : Nat} {v : Value} {S : Src9} {st : St9} (hnf : NumFit S) (hx : ∀ s1 : PS, low9 st ≤ s1.tok → s1.tok ≤ S.L.length → Six9 Q B v S (.ok s1)) : Six9 Q B v S st := by
  have hst : ∀ s : PS, low9 st ≤ s.tok → s.tok < S.L.length → Six9 Q B v S (.ok s.step) := fun s h1 h2 => hx s.step (by show low9 st ≤ s.tok + 1; omega) (by show s.tok + 1 ≤ _; omega)
  have h1 := prim_reads Q B v S st hnf (fun s1 h1 h2 => (hx s1 h1 h2).expr)
  have h2 := call_reads Q B v S st h1 (fun s1 h1 h2 => (hx s1 h1 h2).expr)
  have h3 := unary_reads Q B v S st (fun _ _ => h2) (fun s e h => (hx s.step (by rw [e]; exact Nat.le_refl _) (by show s.tok + 1 ≤ _; omega)).unary)
  have h4 := term_reads Q B v S st h3 (fun s h1 h2 => (hst s h1 h2).unary)
  have h5 := sum_reads Q B v S st h4 (fun s h1 h2 => (hst s h1 h2).term)
  exact ⟨h1, h2, h3, h4, h5, expr_reads Q B v S st h5 (fun s h1 h2 => (hst s h1 h2).sum)⟩
theorem six_good (Q B : Nat) (v : Value) (S : Src9) (hnf : NumFit S) : ∀ (n : Nat) (s : PS), S.left s ≤ n → Six9 Q B v S (.ok s) := by
  intro n
  induction n with
  | zero => exact fun s h => six_of hnf (fun s1 h1 h2 => by have h1' : s.tok + 1 ≤ s1.tok := h1; unfold Src9.left at h; omega)
  | succ n ih => exact fun s h => six_of hnf (fun s1 h1 h2 => ih s1 (by have h1' : s.tok + 1 ≤ s1.tok := h1; unfold Src9.left at h ⊢; omega))
theorem six_any (Q B : Nat) (v : Value) (S : Src9) (hnf : NumFit S) (st : St9) : Six9 Q B v S st := six_of hnf (fun s _ _ => six_good Q B v S hnf _ s (Nat.le_refl _))
theorem expr_any (Q B : Nat) (v : Value) (S : Src9) (hnf : NumFit S) (st : St9) : Reads9 149 (exprC S) Q B v S st := (six_any Q B v S hnf st).expr
end Go.Proofs.YtkppdndbfedijadGreatDoor

/- gessoref9: with. -/
namespace Go.Proofs.YtkppdndbfedijadGreatDoor
open Go.RowKit

theorem bindS_then {α β : Type} (st : St9) (X : PS → Got α) (f : α → PS → Got β) : bindS st (fun s => (X s).then f) = (bindS st X).then f := by
  match st with
  | .ok s => rfl
  | .error e => rfl
theorem then_bind {α β : Type} (g : Got α) (f : PS → Got β) : (g.then fun _ s => f s) = bindS (stOf g) f := by
  match g with
  | .ok (a, s) => rfl
  | .error e => rfl
/-- What a node of one kid is, behind what was read. -/
def OneG (kind : Int) (tx : ByteArray) (gE : Got Nd) (G : Got Nd) : Prop := (∃ e, G = .error e) ∨ ∃ k s s' x, gE = .ok (k, s) ∧ tx = strOfNums x ∧ G = .ok (.mk kind x 0 [k], s')
theorem val_one {w w' : World} {M : Nat → Prop} {kind : Int} {tx : ByteArray} {gE G : Got Nd} {a b c d : Value} {T : TypeId} (hG : OneG kind tx gE G) (h : ValG w M (.agg #[a, b, c, d]) gE) (hB : M w.heap.size) (ha : Above M (w.alloc (.cells #[a, b, c, d] T)) w') :
    ValG w' M (.agg #[.int .i64 kind, .string tx, .int .i64 0, .slice (some ⟨w.heap.size, 0, none⟩) 1 1]) G := by
  rcases hG with ⟨e, rfl⟩ | ⟨k, s, s', x, rfl, rfl, rfl⟩
  · exact ⟨_, _, _, _, _, _, rfl⟩
  · exact NodeV.above (node_val (tx := x) (kids1 h hB 1)) ha
def withG (S : Src9) (kind : Int) (g1 : Got (List Int)) : Got Nd := g1.then fun x s => (wantP S sSet s).then fun _ s => (exprC S s).then fun k s => (wantP S sSemi s).then fun _ s => nodeP kind x 0 [k] s
theorem with_bind (S : Src9) (kind : Int) (st : St9) : bindS st (withC S kind) = withG S kind (bindS st (nameP S)) := bindS_then st (nameP S) _
theorem with_one {S : Src9} {kind : Int} {g1 : Got (List Int)} {tx : ByteArray} (ht : TextG (.string tx) g1) : OneG kind tx (bindS (stOf (bindS (stOf g1) (wantP S sSet))) (exprC S)) (withG S kind g1) ∧ stOf (withG S kind g1) = nodeS (stOf (bindS (stOf (bindS (stOf (bindS (stOf g1) (wantP S sSet))) (exprC S))) (wantP S sSemi))) := by
  unfold withG
  match g1, ht with
  | .error e, _ => exact ⟨Or.inl ⟨_, rfl⟩, rfl⟩
  | .ok (x, s), ht =>
    have e : Value.string tx = .string (strOfNums x) := ht
    injection e with e
    simp only [then_ok, stOf_ok, bindS_ok]
    cases hw : wantP S sSet s with
    | error e => exact ⟨Or.inl ⟨_, rfl⟩, rfl⟩
    | ok y =>
      obtain ⟨⟨⟩, s1⟩ := y
      simp only [then_ok, stOf_ok, bindS_ok]
      cases hx : exprC S s1 with
      | error e => exact ⟨Or.inl ⟨_, rfl⟩, rfl⟩
      | ok z =>
        obtain ⟨k, s2⟩ := z
        simp only [then_ok, stOf_ok, bindS_ok]
        cases hv : wantP S sSemi s2 with
        | error e => exact ⟨Or.inl ⟨_, rfl⟩, rfl⟩
        | ok u =>
          obtain ⟨⟨⟩, s3⟩ := u
          exact ⟨Or.inr ⟨k, s2, _, x, rfl, e, rfl⟩, rfl⟩
set_option maxHeartbeats 4000000 in
theorem with_any9 (Q B : Nat) (v : Value) (S : Src9) (hnf : NumFit S) (kind : Int) (st : St9) (w : World) (hp : Par w Q B v S st) :
    Calls Tryz.prog 148 #[.pointer (some ⟨Q, 0, none⟩), .int .i64 kind] w fun e w' => (∃ u, e = .returned u ∧ ValG w' (From w.heap.size) u (bindS st (withC S kind))) ∧ Par w' Q B v S (stOf (bindS st (withC S kind))) ∧ w.grownBy w' (some Q) := by
  have hRB := hp.size
  have hqb := hp.qb
  have HPA : Hid (Par (w.alloc zeroN) Q B v S st) := hp.below ((Below.refl _ w).alloc (Nat.le_refl _) _)
  have HX : Hid (Box4 (w.alloc zeroN) w.heap.size (.int .i64 0) (.string ⟨#[]⟩) (.int .i64 0) (.slice none 0 0)) := Box4.new _ _ _ _ _
  have hnm := fun w' (h' : Par w' Q B v S st) => name_any Q B v S st w' h'
  rw [with_bind]
  generalize bindS st (nameP S) = g1 at *
  have hW1 := want_as (Q := Q) (B := B) (v := v) (S := S) (x := ⟨#[61]⟩) (l := sSet) (by decide) (stOf g1)
  have HO : Hid (∀ tx, TextG (.string tx) g1 → OneG kind tx (bindS (stOf (bindS (stOf g1) (wantP S sSet))) (exprC S)) (withG S kind g1) ∧ stOf (withG S kind g1) = nodeS (stOf (bindS (stOf (bindS (stOf (bindS (stOf g1) (wantP S sSet))) (exprC S))) (wantP S sSemi)))) := fun tx h => with_one h
  generalize withG S kind g1 = G at *
  generalize stOf (bindS (stOf g1) (wantP S sSet)) = st1 at *
  have hxx : Hid (Reads9 149 (exprC S) Q B v S st1) := expr_any Q B v S hnf st1
  unfold Reads9 at hxx
  generalize bindS st1 (exprC S) = gE at *
  have hW2 := want_as (Q := Q) (B := B) (v := v) (S := S) (x := ⟨#[59]⟩) (l := sSemi) (by decide) (stOf gE)
  generalize stOf (bindS (stOf gE) (wantP S sSemi)) = st3 at *
  clear hp
  go_enter Tryz.func148, Tryz.ntmps148
  go_wp2_with (first
    | (go_at_call 105; refine (hnm _ HPA.out).mono ?_; rintro e w1 ⟨⟨xv, rfl, htx⟩, hp1, hg1⟩; obtain ⟨tx, hxv⟩ := text_string htx; subst hxv)
    | (go_at_call_of 72 (Value.string ⟨#[61]⟩); refine (hW1 _ hp1).mono ?_; rintro e w2 ⟨rfl, hp2, hgx⟩; have hg2 := hg1.trans hgx)
    | (go_at_call 149; refine (hxx.out _ hp2).mono ?_; rintro e w3 ⟨⟨u, rfl, hv⟩, hp3, hgy⟩; obtain ⟨a, b, c, ad, n, cc, hu'⟩ := hv.any; subst hu'; have hg3 := hg2.trans hgy; have hp3a := hp3.below ((Below.refl _ _).alloc (Nat.le_refl _) (.cells #[.int .i64 a, .string b, .int .i64 c, .slice ad n cc] 24)))
    | (go_at_call_of 72 (Value.string ⟨#[59]⟩); refine (hW2 _ hp3a).mono ?_; rintro e w4 ⟨rfl, hp4, hgz⟩; have hsz : w.heap.size < w3.heap.size := (by have := hg3.size; simp at this; omega); obtain ⟨⟨p0, p1, p2, p3⟩, _⟩ := ((Box4.new w3 (.int .i64 a) (.string b) (.int .i64 c) (.slice ad n cc)).grown hgz (by omega)).facts; have hp4a := hp4.below ((Below.refl _ _).alloc (Nat.le_refl _) (.cells #[.int .i64 a, .string b, .int .i64 c, .slice ad n cc] 24)); have hX4 := ((HX.out.grown hg3 (by omega)).alloc (.cells #[.int .i64 a, .string b, .int .i64 c, .slice ad n cc] 24)).grown hgz (by omega))
    | (go_at_call 74; refine (node_any Q B v S _ _ _ _ ⟨_, _, _, rfl⟩ _ hp4a).mono ?_; rintro e w5 ⟨rfl, hp5, hg5⟩; have hX5 := (hX4.alloc _).grown hg5 (by omega); obtain ⟨⟨x0, x1, x2, x3⟩, f0, f1, f2, f3⟩ := hX5.facts))
  obtain ⟨ho, hs⟩ := HO.out tx htx
  have hgw : w.grownBy w5 (some Q) := (((((World.grownBy_alloc w zeroN (some Q)).trans hg3).trans (World.grownBy_alloc _ _ _)).trans hgz).trans (World.grownBy_alloc _ _ _)).trans hg5
  have sz2 : w.heap.size < w2.heap.size := by have := hg2.size; simp at this; omega
  have sz3 : w2.heap.size ≤ w3.heap.size := hgy.size
  have sz4 : w3.heap.size + 1 ≤ w4.heap.size := by have := hgz.size; simpa using this
  refine bodyPost_ret (v := .agg #[.int .i64 kind, .string tx, .int .i64 0, .slice (some ⟨w4.heap.size, 0, none⟩) 1 1]) (by simp [results, Tryz.results148, go_sem, x0, x1, x2, x3]) rfl ⟨⟨_, rfl, ?_⟩, by rw [hs]; exact par_box hp5 hRB _ _ _ _, grown_own hgw (below_box (Nat.le_refl _) _ _ _ _)⟩
  have hv4 := (hv.above (Above.grown (World.grownBy_alloc w3 (.cells #[.int .i64 a, .string b, .int .i64 c, .slice ad n cc] 24) none) (fun k e => by cases e))).above (Above.grown hgz (fun k e => by injection e with e; show ¬ w2.heap.size ≤ k; omega))
  exact (val_one (T := 24) ho hv4 (by show w2.heap.size ≤ _; omega) ((Above.grown hg5 (fun k e => by injection e with e; show ¬ w2.heap.size ≤ k; omega)).trans (above_box (R := w.heap.size) (by show ¬ w2.heap.size ≤ w.heap.size; omega) _ _ _ _))).mono (fun k hk _ => by have hk' : w2.heap.size ≤ k := hk; show w.heap.size ≤ k; omega)
end Go.Proofs.YtkppdndbfedijadGreatDoor
