/- Package count: counts in memory, and what a function is that is called for each. -/
import Derived.Test.YthdhaokjibfjdaaCtHold
import Derived.Test.YthdhaokjibfjdaaLeads
import Derived.Test.YthdhaokjibfjdaaIntMap
import Derived.Test.YthdhaokjibfjdaaCome
namespace Go.Proofs.Ythdhaokjibfjdaa
open Go.RowKit
open Go.Maps (Keyed keyOf_int_mk)

/-- Counts in memory. -/
def CMap (w : World) (mm T : Nat) (c : Int → Int) : Prop :=
  ∃ (n : Nat) (D : DataW Unit), w.ownsMap Try.prog 3 (plainElem Try.prog 3) mm n D ∧ n ≤ T ∧ ∀ o : Int, D.atKey (.int .i64 o) (.lit (.int .i64 0)) = .lit (.int .i64 (c o))
namespace CMap
variable {w w' : World} {mm T T' : Nat} {c : Int → Int}
theorem lt (h : CMap w mm T c) : mm < w.heap.size := by obtain ⟨n, D, ho, _⟩ := h; exact ho.lt
theorem blk (h : CMap w mm T c) (e : w'.heap[mm]? = w.heap[mm]?) : CMap w' mm T c := by
  obtain ⟨n, D, ⟨es, clock, hb0, r⟩, q⟩ := h
  exact ⟨n, D, ⟨es, clock, by rw [e]; exact hb0, r⟩, q⟩
theorem up (h : CMap w mm T c) (ht : T ≤ T') : CMap w mm T' c := by
  obtain ⟨n, D, h1, h2, h3⟩ := h
  exact ⟨n, D, h1, by omega, h3⟩
theorem new (w : World) : CMap (w.alloc (.map #[] 0)) w.heap.size 0 (fun _ => 0) :=
  ⟨0, .map [], World.ownsMap_made (H := Unit) w Try.prog 3 (plainElem Try.prog 3), Nat.le_refl _, fun _ => rfl⟩
theorem put {n : Nat} {D : DataW Unit} {o d : Int} (hD : w.ownsMap Try.prog 3 (plainElem Try.prog 3) mm n D) (hn : n ≤ T) (ha : ∀ o : Int, D.atKey (.int .i64 o) (.lit (.int .i64 0)) = .lit (.int .i64 (c o)))
    (ho : w'.ownsMap Try.prog 3 (plainElem Try.prog 3) mm (n + 1) (D.put (.int .i64 o) (.lit (.int .i64 (c o + d))))) : CMap w' mm (T + 1) (addC d c o) := by
  have hM := hD.isMap
  refine ⟨n + 1, _, ho, by omega, fun k => ?_⟩
  unfold addC
  by_cases e : k = o
  · subst e
    rw [Go.Maps.atKey_put_same hM (show WideAt.IsKeyLit (.int .i64 _) from trivial), if_pos rfl]
  · rw [Go.Maps.atKey_put_other (fun h => e (by simp at h; omega)), if_neg e]
    exact ha k
end CMap

/-- Those blocks are as they were. -/
def KeptC (G : Nat → Prop) (w w' : World) : Prop := ∀ k, G k → w'.heap[k]? = w.heap[k]?
theorem KeptC.trans {G : Nat → Prop} {w w' w'' : World} (h : KeptC G w w') (h' : KeptC G w' w'') : KeptC G w w'' := fun k hk => (h' k hk).trans (h k hk)
theorem KeptC.mono {G G' : Nat → Prop} {w w' : World} (h : KeptC G w w') (hg : ∀ k, G' k → G k) : KeptC G' w w' := fun k hk => h k (hg k hk)
theorem KeptC.cell {G : Nat → Prop} {w w' : World} {b j : Nat} {v : Value} (h : KeptC G w w') (hg : G b) (hv : w.cell? ⟨b, j, none⟩ = some v) : w'.cell? ⟨b, j, none⟩ = some v := (World.cell?_of_block (a := ⟨b, j, none⟩) (h b hg)).trans hv

/-- A function that is called for each of some references: from state to state, r times at most; the blocks of G stay as they are, and all that lies ahead of L. -/
structure Does (K : Nat) (cs : Array Value) {σ : Type} (st : σ → Int → σ) (L : Nat) (I : Nat → σ → (Nat → Prop) → World → Prop) : Prop where
  enters : ∀ (args : Array Value) (w : World), Sem.run Try.prog (callFunc K args) w = .ok (.enter K args) w
  less : ∀ {r r' s G w}, I r s G w → r' ≤ r → I r' s G w
  fresh : ∀ {r s G w w'} (G' : Nat → Prop), I r s G w → Below w.heap.size w w' → (∀ k, G' k → (G k ∨ w.heap.size ≤ k) ∧ k < w'.heap.size) → I r s G' w'
  out : ∀ {r s G w k}, I r s G w → G k → k < w.heap.size
  low : ∀ {r s G w}, I r s G w → L ≤ w.heap.size
  does : ∀ {r s G w} o, I (r + 1) s G w → (Lit.int .i64 o).wf = true → Calls Try.prog K (#[] ++ #[.int .i64 o] ++ cs) w fun e w' => e = .returned (.tuple #[]) ∧ I r (st s o) G w' ∧ KeptC G w w' ∧ Below L w w'
/-- What a call answers that does for some references. -/
def DoesAns {σ : Type} (I : Nat → σ → (Nat → Prop) → World → Prop) (r : Nat) (s : σ) (G : Nat → Prop) (L : Nat) (w : World) (e : Ending) (w' : World) : Prop :=
  e = .returned (.tuple #[]) ∧ I r s G w' ∧ KeptC G w w' ∧ Below L w w'
theorem Does.same {K : Nat} {cs : Array Value} {σ : Type} {st : σ → Int → σ} {L : Nat} {I : Nat → σ → (Nat → Prop) → World → Prop} (D : Does K cs st L I) {r : Nat} {s : σ} {G : Nat → Prop} {w w' : World} (h : I r s G w) (hb : Below w.heap.size w w') : I r s G w' :=
  D.fresh G h hb fun _ hk => ⟨Or.inl hk, Nat.lt_of_lt_of_le (D.out h hk) hb.size⟩
theorem ctview_low {w w' : World} {b cap bm L : Nat} {W : List Int} (h : IsView w b cap bm W) (hB : Below L w w') (hb : b < L) (hbm : bm < L) : IsView w' b cap bm W :=
  ⟨ownsRow_below h.own hB hb, h.wf, h.begun.below hB hbm⟩
/-- A block more that is kept. -/
theorem Does.beside {K : Nat} {cs : Array Value} {σ : Type} {st : σ → Int → σ} {L : Nat} {I : Nat → σ → (Nat → Prop) → World → Prop} (D : Does K cs st L I) {r g : Nat} {s : σ} {G : Nat → Prop} {w w' : World} (h : I r s G w) (hb : Below w.heap.size w w') (hg : w.heap.size ≤ g) (hl : g < w'.heap.size) : I r s (fun k => G k ∨ k = g) w' :=
  D.fresh _ h hb fun k hk => by
    rcases hk with hk | rfl
    · exact ⟨Or.inl hk, Nat.lt_of_lt_of_le (D.out h hk) hb.size⟩
    · exact ⟨Or.inr hg, hl⟩
theorem Does.drop {K : Nat} {cs : Array Value} {σ : Type} {st : σ → Int → σ} {L : Nat} {I : Nat → σ → (Nat → Prop) → World → Prop} (D : Does K cs st L I) {r g : Nat} {s : σ} {G : Nat → Prop} {w : World} (h : I r s (fun k => G k ∨ k = g) w) : I r s G w :=
  D.fresh _ h (Below.refl _ _) fun _ hk => ⟨Or.inl (Or.inl hk), D.out h (Or.inl hk)⟩
/-- The tally as it is handed on. -/
abbrev tallyV (b n cap bm mm : Nat) : Value := .agg #[sl b n cap, .map (some bm), .map (some mm)]
/-- Boxes of three. -/
theorem box3 {w w' : World} {x y z : Value} {t : TypeId} (hb : Below (w.alloc (.cells #[x, y, z] t)).heap.size (w.alloc (.cells #[x, y, z] t)) w') : w'.cell? ⟨w.heap.size, 0, none⟩ = some x ∧ w'.cell? ⟨w.heap.size, 1, none⟩ = some y ∧ w'.cell? ⟨w.heap.size, 2, none⟩ = some z ∧ w.heap.size < w'.heap.size := by
  have hs := hb.size
  simp at hs
  exact ⟨by rw [hb.cell (p := ⟨w.heap.size, 0, none⟩) (by simp)]; simp, by rw [hb.cell (p := ⟨w.heap.size, 1, none⟩) (by simp)]; simp, by rw [hb.cell (p := ⟨w.heap.size, 2, none⟩) (by simp)]; simp, by omega⟩
theorem thingsOf_drop {W refs : List Int} {i : Nat} (h : i < refs.length) : thingsOf W (refs.drop i) = (if thingB W (wd refs i) = true then [wd refs i] else []) ++ thingsOf W (refs.drop (i + 1)) := by
  rw [drop_cons h]
  unfold thingsOf
  rw [List.filter_cons]
  split <;> rfl

set_option maxHeartbeats 4000000 in
/-- each, where some references lie. -/
theorem cteach_some {K : Nat} {cs : Array Value} {σ : Type} {st : σ → Int → σ} {L : Nat} {I : Nat → σ → (Nat → Prop) → World → Prop} (D : Does K cs st L I) (W refs : List Int) (b cap bm mm rb ro rc r : Nat) (s : σ) (G : Nat → Prop) (w : World) (hv : IsView w b cap bm W) (hb : b < L) (hbm : bm < L)
    (hI : I (r + refs.length) s G w) (hg : G rb) (hr : Row w rb ro refs) (hrl : refs.length ≤ 100000) :
    Calls Try.prog 47 #[tallyV b W.length cap bm mm, .slice (some ⟨rb, ro, none⟩) refs.length rc, .func (.func K) #[] cs] w (DoesAns I r ((thingsOf W refs).foldl st s) G L w) := by
  generalize hX : (thingsOf W refs).foldl st s = X
  have HX : Hid (X = (thingsOf W (refs.drop 0)).foldl st s) := hX.symm
  clear hX
  have hent := D.enters
  have hls := D.low hI
  have hI1 : I (r + (refs.length - 0)) s (fun k => G k ∨ k = w.heap.size) (w.alloc (.cells #[sl b W.length cap, .map (some bm), .map (some mm)] 55)) :=
    D.fresh _ hI ((Below.refl _ _).alloc (Nat.le_refl _) _) fun k hk => by
      rcases hk with hk | hk
      · exact ⟨Or.inl hk, by have := D.out hI hk; simp; omega⟩
      · exact ⟨Or.inr (by omega), by simp; omega⟩
  have hB1 : Below L w (w.alloc (.cells #[sl b W.length cap, .map (some bm), .map (some mm)] 55)) := (Below.refl _ _).alloc hls _
  have hK1 : KeptC G w (w.alloc (.cells #[sl b W.length cap, .map (some bm), .map (some mm)] 55)) := fun k hk => Below.heap_alloc _ _ _ (D.out hI hk)
  obtain ⟨t0, t1, t2, _⟩ := box3 (Below.refl (w.alloc (.cells #[sl b W.length cap, .map (some bm), .map (some mm)] 55)).heap.size (w.alloc (.cells #[sl b W.length cap, .map (some bm), .map (some mm)] 55)))
  have hv1 := hv.alloc (.cells #[sl b W.length cap, .map (some bm), .map (some mm)] 55)
  have hr1 := hr.alloc (.cells #[sl b W.length cap, .map (some bm), .map (some mm)] 55)
  clear hI hv hr
  go_enter Try.func47, Try.ntmps47
  go_wp2
  go_loopw [10] (fun s10 wr => ∃ (i : Nat) (s' : σ), s10 = .int .i64 i ∧ i ≤ refs.length ∧ Hid (X = (thingsOf W (refs.drop i)).foldl st s') ∧ I (r + (refs.length - i)) s' (fun k => G k ∨ k = w.heap.size) wr ∧ KeptC G w wr ∧ Below L w wr ∧ IsView wr b cap bm W ∧ Row wr rb ro refs ∧ wr.cell? ⟨w.heap.size, 0, none⟩ = some (sl b W.length cap) ∧ wr.cell? ⟨w.heap.size, 1, none⟩ = some (.map (some bm))) (fun s10 _ => refs.length - (intOf s10).toNat)
  case atStart => exact ⟨0, s, rfl, Nat.zero_le _, HX, hI1, hK1, hB1, hv1, hr1, t0, t1⟩
  case round =>
    clear hI1 hK1 hB1 hv1 hr1 t0 t1 t2 HX
    obtain ⟨i, s', rfl, hi, HX, hI, hK, hB, hv, hr, t0, t1⟩ := hrel
    by_cases hlt : i < refs.length
    · have hci := hr.cell i hlt
      have hwf := hr.wf i
      have hrlt := hr.lt
      have hii : (i : Int) < (refs.length : Int) := by omega
      have hw1 := wrap_id (x := (i : Int) + 1) (by omega) (by omega)
      have hX := HX.out
      rw [thingsOf_drop hlt] at hX
      cases ht : thingB W (wd refs i) with
      | false =>
        rw [ht] at hX
        have HX' : Hid (X = (thingsOf W (refs.drop (i + 1))).foldl st s') := hX
        clear hX HX
        go_wp2_with (go_at_call 42; refine (has_any W b cap bm _ _ hv).mono ?_; rw [ht]; rintro e w2 ⟨rfl, hb2⟩)
        have hs2 := D.low hI
        go_roundw
        case rel => exact ⟨i + 1, s', by first | rfl | simp, by omega, HX', D.less (D.same hI hb2) (by omega), hK.trans fun k hk => hb2.block k (D.out hI (Or.inl hk)), hB.trans (hb2.mono hs2), hv.same hb2, hr.same hb2, through hb2 t0 (World.block_lt_of_cell? _ _ t0), through hb2 t1 (World.block_lt_of_cell? _ _ t1)⟩
        case measure => simp [intOf]; omega
      | true =>
        rw [ht] at hX
        have HX' : Hid (X = (thingsOf W (refs.drop (i + 1))).foldl st (st s' (wd refs i))) := hX
        clear hX HX
        have hI' : I ((r + (refs.length - (i + 1))) + 1) s' (fun k => G k ∨ k = w.heap.size) wr := D.less hI (by omega)
        go_wp2_with (first | (go_at_call 42; refine (has_any W b cap bm _ _ hv).mono ?_; rw [ht]; rintro e w2 ⟨rfl, hb2⟩) | (refine (D.does _ (D.same hI' hb2) hwf).mono ?_; rintro e w3 ⟨rfl, hI3, hK3, hB3⟩))
        have hs2 := D.low hI
        have hk12 : KeptC (fun k => G k ∨ k = w.heap.size) wr w2 := fun k hk => hb2.block k (D.out hI hk)
        have hk13 := hk12.trans hK3
        have hb13 := (hb2.mono hs2).trans hB3
        have hz3 := hb13.size
        go_roundw
        case rel => exact ⟨i + 1, _, by first | rfl | simp, by omega, HX', hI3, hK.trans (hk13.mono fun k hk => Or.inl hk), hB.trans hb13, ctview_low hv hb13 hb hbm, hr.block (hk13 rb (Or.inl hg)) hz3, hk13.cell (Or.inr rfl) t0, hk13.cell (Or.inr rfl) t1⟩
        case measure => simp [intOf]; omega
    · have HE : Hid (X = s') := by have := HX.out; rw [List.drop_eq_nil_of_le (by omega)] at this; exact this
      have hii : ¬ (i : Int) < (refs.length : Int) := by omega
      clear HX
      go_wp2_with fail
      go_end0
      have e := HE.out
      subst e
      exact ⟨rfl, D.fresh G (D.less hI (by omega)) (Below.refl _ _) fun k hk => ⟨Or.inl (Or.inl hk), D.out hI (Or.inl hk)⟩, hK, hB⟩
/-- each, where there is none. -/
theorem cteach_none {K : Nat} {cs : Array Value} {σ : Type} {st : σ → Int → σ} {L : Nat} {I : Nat → σ → (Nat → Prop) → World → Prop} (D : Does K cs st L I) (b n cap bm mm rc r : Nat) (ad : Option Addr) (s : σ) (G : Nat → Prop) (w : World) (hI : I r s G w) :
    Calls Try.prog 47 #[tallyV b n cap bm mm, .slice ad 0 rc, .func (.func K) #[] cs] w (DoesAns I r s G L w) := by
  have hls := D.low hI
  go_enter Try.func47, Try.ntmps47
  go_wp2
  refine wp_loop_rounds 1 ?_
  rw [rounds_succ]
  go_wp2
  go_end0
  exact ⟨rfl, D.same hI ((Below.refl _ _).alloc (Nat.le_refl _) _), fun k hk => Below.heap_alloc _ _ _ (D.out hI hk), (Below.refl _ _).alloc hls _⟩
/-- each, whatever the references are. -/
theorem cteach_any {K : Nat} {cs : Array Value} {σ : Type} {st : σ → Int → σ} {L : Nat} {I : Nat → σ → (Nat → Prop) → World → Prop} (D : Does K cs st L I) (W refs : List Int) (b cap bm mm rc r : Nat) (rad : Option Addr) (s : σ) (G : Nat → Prop) (w : World) (hv : IsView w b cap bm W) (hb : b < L) (hbm : bm < L)
    (hI : I (r + refs.length) s G w) (hr : 0 < refs.length → ∃ rb ro, rad = some ⟨rb, ro, none⟩ ∧ Row w rb ro refs ∧ G rb) (hrl : refs.length ≤ 100000) :
    Calls Try.prog 47 #[tallyV b W.length cap bm mm, .slice rad refs.length rc, .func (.func K) #[] cs] w (DoesAns I r ((thingsOf W refs).foldl st s) G L w) := by
  by_cases h0 : 0 < refs.length
  · obtain ⟨rb, ro, rfl, h1, h2⟩ := hr h0
    exact cteach_some D W refs b cap bm mm rb ro rc r s G w hv hb hbm hI h2 h1 hrl
  · have e0 : refs = [] := List.eq_nil_of_length_eq_zero (by omega)
    subst e0
    exact cteach_none D b W.length cap bm mm rc r rad s G w hI
end Go.Proofs.Ythdhaokjibfjdaa
