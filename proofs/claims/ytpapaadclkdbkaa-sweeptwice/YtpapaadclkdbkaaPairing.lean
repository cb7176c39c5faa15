/- Who is given to whom, in memory: package reach's pairing. -/
import Derived.Test.YtpapaadclkdbkaaAlikePlain2
import Derived.Test.YtpapaadclkdbkaaCome
import Derived.Maps.OwnSet
import Derived.MapKept
namespace Go.Proofs.Ytpapaadclkdbkaa
open Go.RowKit
open Go.Maps (Keyed keyOf_int_mk)

theorem info74 : (Try.prog.info? 100).map (fun i => (i.zero, i.size, i.bytes)) = some (some (.agg #[.int .i64 0, .int .i64 0]), 2, 16) := by kernel_rfl
theorem tyPairs : Try.prog.underlying 78 = some (.slice 100) := by kernel_rfl

/-- 'm[k] = v' as a pair of assignments lays it, of a key that is new: the entry is made, then filled. -/
theorem entry_new {w : World} {b n : Nat} {D : DataW Unit} {x y : Int} (h : w.ownsMap Try.prog 3 (plainElem Try.prog 3) b n D) (hn : n < maxLen) (hx : (Lit.int .i64 x).wf = true) (hy : (Lit.int .i64 y).wf = true) (hnot : Go.Maps.has D (.int .i64 x) = false) :
    ∃ (st : Nat) (wA wB : World), (Instr.mapEntry 52 (.map (some b)) (.int .i64 x)).run Try.prog w = .ok (.tuple #[.int .i64 0, .int .i64 st]) wA ∧ (Instr.entryStore 52 (.map (some b)) (.int .i64 st) (.int .i64 y)).run Try.prog wA = .ok () wB ∧
      wB.ownsMap Try.prog 3 (plainElem Try.prog 3) b (n + 1) (D.put (.int .i64 x) (.lit (.int .i64 y))) ∧ w.grownBy wB (some b) := by
  obtain ⟨v0, ps0, hlook, _⟩ := h.look_ok key3 ty59 (zero3 w) (plainElem_int ty3 (by decide)) (keyOf_int_mk ty3 hx)
  obtain ⟨w2, hup, hown, hgr⟩ := h.update key3 ty59 hn (keyOf_int_mk ty3 hx) (plainElem_int ty3 hy)
  rw [hnot] at hlook
  obtain ⟨es, clock, hb, F, hs, rfl⟩ := h
  obtain ⟨s1, s2, _⟩ := F.stamped
  rcases key3.find w (keyOf_int_mk ty3 hx) es.toList F.keys with ⟨h1, h2⟩ | ⟨j, e0, h1, h2, h3⟩
  · refine ⟨clock, { w with heap := w.heap.setIfInBounds b (.map (es.push ⟨.int .i64 x, .int .i64 0, clock⟩) (clock + 1)) }, w2, ?_, ?_, hown, hgr⟩
    · simp [Instr.mapEntry, run_underlying ty59, MapKept.run_getObj_map hb, key3.check w false (keyOf_int_mk ty3 hx), h1, MapKept.run_setObj_map _ hb, Result.andThen, goInt]
    · have hw2 : ({ w with heap := w.heap.setIfInBounds b (.map (es.push ⟨.int .i64 x, .int .i64 0, clock⟩) (clock + 1)) } : World).heap[b]? = some (.map (es.push ⟨.int .i64 x, .int .i64 0, clock⟩) (clock + 1)) := (MapKept.heap_set hb).1
      have hidx : (es.push ⟨.int .i64 x, .int .i64 0, clock⟩).findIdx? (fun e => ((e.born : Nat) : Int) == ((clock : Nat) : Int)) = some es.size := by
        rw [Array.findIdx?_push]
        have : es.findIdx? (fun e => ((e.born : Nat) : Int) == ((clock : Nat) : Int)) = none := by
          rw [Array.findIdx?_eq_none_iff]
          intro e he
          have := s1 e (by simpa using he)
          simp; omega
        rw [this]; simp
      have hmod : (es.push ⟨.int .i64 x, .int .i64 0, clock⟩).modify es.size (fun e => { e with val := .int .i64 y }) = es.push ⟨.int .i64 x, .int .i64 y, clock⟩ := by
        apply Array.ext
        · simp
        · intro i h1 h2
          simp only [Array.getElem_modify, Array.getElem_push]
          by_cases hi : i < es.size
          · simp [hi]; omega
          · have : es.size = i := by simp at h2; omega
            simp [this]
      have hup' : (Instr.mapUpdate 52 (.map (some b)) (.int .i64 x) (.int .i64 y)).run Try.prog w = .ok () { w with heap := w.heap.setIfInBounds b (.map (es.push ⟨.int .i64 x, .int .i64 y, clock⟩) (clock + 1)) } := by
        simp [Instr.mapUpdate, run_underlying ty59, MapKept.run_getObj_map hb, key3.check w false (keyOf_int_mk ty3 hx), h1, MapKept.run_setObj_map _ hb, Result.andThen]
      have hw : w2 = { w with heap := w.heap.setIfInBounds b (.map (es.push ⟨.int .i64 x, .int .i64 y, clock⟩) (clock + 1)) } := by
        have := hup.symm.trans hup'
        simpa only [Result.ok.injEq, true_and] using this
      rw [hw]
      simp [Instr.entryStore, MapKept.run_getObj_map hw2, asInt, asIntOf, hidx, hmod, MapKept.run_setObj_map _ hw2, Result.andThen]
  · exfalso
    simp [Instr.lookup, run_underlying ty59, MapKept.run_getObj_map hb, key3.check w es.isEmpty (keyOf_int_mk ty3 hx), h1, Result.andThen] at hlook

/-- Pairs as values. -/
def pvals (P : Pairs) : List Value := P.flatMap fun z => [.int .i64 z.1, .int .i64 z.2]
theorem pvals_length (P : Pairs) : (pvals P).length = P.length * 2 := by
  unfold pvals; induction P with
  | nil => rfl
  | cons a r ih => simp only [List.flatMap_cons, List.length_append, ih]; simp; omega
theorem pvals_snoc (P : Pairs) (x y : Int) : pvals (P ++ [(x, y)]) = pvals P ++ [.int .i64 x, .int .i64 y] := by simp [pvals, List.flatMap_append]
theorem pvals_at (P : Pairs) : ∀ (n : Nat), n < P.length → (pvals P)[2 * n]? = some (.int .i64 (pairAt P n).1) ∧ (pvals P)[2 * n + 1]? = some (.int .i64 (pairAt P n).2) := by
  induction P with
  | nil => intro n h; simp at h
  | cons a r ih =>
    intro n h
    have e : pvals (a :: r) = .int .i64 a.1 :: .int .i64 a.2 :: pvals r := by simp [pvals]
    cases n with
    | zero => rw [e]; exact ⟨rfl, rfl⟩
    | succ n =>
      obtain ⟨h1, h2⟩ := ih n (by simpa using h)
      rw [e, show 2 * (n + 1) = 2 * n + 1 + 1 by omega, show 2 * n + 1 + 1 + 1 = (2 * n + 1) + 1 + 1 by omega]
      exact ⟨by simpa [pairAt] using h1, by simpa [pairAt] using h2⟩

/-- A map of who is given to whom. -/
structure Given (w : World) (m : Nat) (ks : List Int) (n : Nat) (P : List (Int × Int)) (D : DataW Unit) : Prop where
  own : w.ownsMap Try.prog 3 (plainElem Try.prog 3) m n D
  has : ∀ x : Int, Go.Maps.has D (.int .i64 x) = ks.contains x
  val : ∀ x y, (x, y) ∈ P → D.atKey (.int .i64 x) (.lit (.int .i64 0)) = .lit (.int .i64 y)
/-- The pairs the other way round. -/
def turn (P : Pairs) : Pairs := P.map fun z => (z.2, z.1)
theorem mem_turn {P : Pairs} {x y : Int} : (y, x) ∈ turn P ↔ (x, y) ∈ P := by
  unfold turn
  constructor
  · intro h; obtain ⟨⟨a, b⟩, h1, h2⟩ := List.mem_map.1 h; injection h2 with e1 e2; dsimp only at e1 e2; subst e1 e2; exact h1
  · intro h; exact List.mem_map.2 ⟨(x, y), h, rfl⟩

/-- What a pairing keeps in memory: the struct in block Q; the maps m1, m2; the pairs in a row of their own, behind Q. -/
structure Pairing (W V : List Int) (b cap bm b' cap' bm' L m1 m2 Q : Nat) (P : Pairs) (vp : Value) (D1 D2 : DataW Unit) (w : World) : Prop where
  view1 : IsView w b cap bm W
  view2 : IsView w b' cap' bm' V
  low : b < L ∧ bm < L ∧ b' < L ∧ bm' < L
  mid : L ≤ m1 ∧ L ≤ m2 ∧ m1 ≠ Q ∧ m2 ≠ Q ∧ m1 ≠ m2 ∧ L ≤ Q
  c0 : w.cell? ⟨Q, 0, none⟩ = some (sl b W.length cap)
  c1 : w.cell? ⟨Q, 1, none⟩ = some (.map (some bm))
  c2 : w.cell? ⟨Q, 2, none⟩ = some (.map (some m1))
  c3 : w.cell? ⟨Q, 3, none⟩ = some (sl b' V.length cap')
  c4 : w.cell? ⟨Q, 4, none⟩ = some (.map (some bm'))
  c5 : w.cell? ⟨Q, 5, none⟩ = some (.map (some m2))
  c6 : w.cell? ⟨Q, 6, none⟩ = some vp
  fz : w.frozen? ⟨Q, 6, none⟩ = false
  one : Given w m1 (dom P) P.length P D1
  other : Given w m2 (img P) P.length (turn P) D2
  own : w.ownsRow (max (max m1 m2) Q + 1) 100 2 vp P.length (pvals P)
  size : Q < w.heap.size

/-- What may have moved meanwhile. -/
structure Moved (L m1 m2 Q : Nat) (vp vp' : Value) (w w' : World) : Prop where
  below : Below L w w'
  size : w.heap.size ≤ w'.heap.size
  block : ∀ k, k < w.heap.size → k ≠ m1 → k ≠ m2 → k ≠ Q → vp.ownBlock ≠ some k → w'.heap[k]? = w.heap[k]?
  row : vp'.ownBlock = vp.ownBlock ∨ ∃ g, w.heap.size ≤ g ∧ vp'.ownBlock = some g
theorem Moved.same {L m1 m2 Q : Nat} {vp : Value} {w w' : World} (h : Below w.heap.size w w') (hL : L ≤ w.heap.size) : Moved L m1 m2 Q vp vp w w' :=
  ⟨h.mono hL, h.size, fun k hk _ _ _ _ => h.block k hk, Or.inl rfl⟩
theorem Moved.trans {L m1 m2 Q : Nat} {vp vp' vp'' : Value} {w w' w'' : World} (h : Moved L m1 m2 Q vp vp' w w') (g : Moved L m1 m2 Q vp' vp'' w' w'') : Moved L m1 m2 Q vp vp'' w w'' := by
  refine ⟨h.below.trans g.below, Nat.le_trans h.size g.size, fun k hk h1 h2 h3 h4 => ?_, ?_⟩
  · rw [g.block k (Nat.lt_of_lt_of_le hk h.size) h1 h2 h3 (fun e => ?_), h.block k hk h1 h2 h3 h4]
    rcases h.row with hr | ⟨g', hg, hr⟩
    · exact h4 (hr.symm.trans e)
    · rw [hr] at e; injection e with e; omega
  · rcases g.row with gr | ⟨g', hg, gr⟩
    · rcases h.row with hr | ⟨h', hh, hr⟩
      · exact Or.inl (gr.trans hr)
      · exact Or.inr ⟨h', hh, gr.trans hr⟩
    · exact Or.inr ⟨g', Nat.le_trans h.size hg, gr⟩
/-- A row that lies apart stays. -/
def Apart (m1 m2 Q : Nat) (vp : Value) (rb : Nat) : Prop := rb ≠ m1 ∧ rb ≠ m2 ∧ rb ≠ Q ∧ vp.ownBlock ≠ some rb
theorem Moved.keeps {L m1 m2 Q : Nat} {vp vp' : Value} {w w' : World} (h : Moved L m1 m2 Q vp vp' w w') {rb ro : Nat} {xs : List Int} (hr : Row w rb ro xs) (ha : Apart m1 m2 Q vp rb) : Row w' rb ro xs ∧ Apart m1 m2 Q vp' rb := by
  obtain ⟨a1, a2, a3, a4⟩ := ha
  refine ⟨hr.block (h.block rb hr.lt a1 a2 a3 a4) h.size, a1, a2, a3, fun e => ?_⟩
  rcases h.row with hr' | ⟨g, hg, hr'⟩
  · exact a4 (hr'.symm.trans e)
  · rw [hr'] at e; injection e with e; have := hr.lt; omega

theorem own_same2 {w w' : World} {base n : Nat} {t : TypeId} {size : Nat} {v : Value} {xs : List Value} (h : w.ownsRow base t size v n xs) (hb : ∀ g, v.ownBlock = some g → w'.heap[g]? = w.heap[g]?) : w'.ownsRow base t size v n xs := by
  obtain ⟨h1, h2⟩ := h
  refine ⟨h1, ?_⟩
  rcases h2 with h2 | ⟨g, cap, cur, rfl, hg, hh, r⟩
  · exact Or.inl h2
  · exact Or.inr ⟨g, cap, cur, rfl, hg, by rw [hb g rfl]; exact hh, r⟩
theorem map_block {w w' : World} {m n : Nat} {D : DataW Unit} (h : w.ownsMap Try.prog 3 (plainElem Try.prog 3) m n D) (hb : w'.heap[m]? = w.heap[m]?) : w'.ownsMap Try.prog 3 (plainElem Try.prog 3) m n D := by
  obtain ⟨es, clock, hb0, r⟩ := h
  exact ⟨es, clock, by rw [hb]; exact hb0, r⟩
theorem Pairing.same {W V : List Int} {b cap bm b' cap' bm' L m1 m2 Q : Nat} {P : Pairs} {vp : Value} {D1 D2 : DataW Unit} {w w' : World} (h : Pairing W V b cap bm b' cap' bm' L m1 m2 Q P vp D1 D2 w) (hb : Below w.heap.size w w') : Pairing W V b cap bm b' cap' bm' L m1 m2 Q P vp D1 D2 w' := by
  have hs := h.size
  refine ⟨h.view1.same hb, h.view2.same hb, h.low, h.mid, through hb h.c0 hs, through hb h.c1 hs, through hb h.c2 hs, through hb h.c3 hs, through hb h.c4 hs, through hb h.c5 hs, through hb h.c6 hs, throughF hb h.fz hs,
    ⟨map_block h.one.own (hb.block _ h.one.own.lt), h.one.has, h.one.val⟩, ⟨map_block h.other.own (hb.block _ h.other.own.lt), h.other.has, h.other.val⟩, own_same2 h.own fun g hg => hb.block g (h.own.lt g hg).2, by have := hb.size; omega⟩

end Go.Proofs.Ytpapaadclkdbkaa
