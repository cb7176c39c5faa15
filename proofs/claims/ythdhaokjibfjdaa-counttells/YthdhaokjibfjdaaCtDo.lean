/- Package count: the closures of tallyOf and takeAway; takeAway, tallyOf. -/
import Derived.Test.YthdhaokjibfjdaaCtGiven
namespace Go.Proofs.Ythdhaokjibfjdaa
open Go.RowKit
open Go.Maps (Keyed keyOf_int_mk)

/-- A tally in box B, its counts in block mm. -/
structure TalI (b n cap bm mm L B r : Nat) (c : Int → Int) (G : Nat → Prop) (w : World) : Prop where
  b0 : w.cell? ⟨B, 0, none⟩ = some (sl b n cap)
  b1 : w.cell? ⟨B, 1, none⟩ = some (.map (some bm))
  b2 : w.cell? ⟨B, 2, none⟩ = some (.map (some mm))
  map : ∃ T, CMap w mm T c ∧ (∀ o, -(T : Int) ≤ c o ∧ c o ≤ (T : Int)) ∧ T + r ≤ 1000000
  lo : L ≤ B ∧ L ≤ mm ∧ B ≠ mm
  out : ∀ k, G k → k ≠ mm ∧ k < w.heap.size
namespace TalI
variable {b n cap bm mm L B r r' : Nat} {c c' : Int → Int} {G G' : Nat → Prop} {w w' : World}
theorem lt (h : TalI b n cap bm mm L B r c G w) : B < w.heap.size := World.block_lt_of_cell? _ _ h.b0
theorem mlt (h : TalI b n cap bm mm L B r c G w) : mm < w.heap.size := by obtain ⟨T, h1, _⟩ := h.map; exact h1.lt
theorem low (h : TalI b n cap bm mm L B r c G w) : L ≤ w.heap.size := Nat.le_trans h.lo.1 (Nat.le_of_lt h.lt)
theorem less (h : TalI b n cap bm mm L B r c G w) (hr : r' ≤ r) : TalI b n cap bm mm L B r' c G w := by
  obtain ⟨T, h1, h2, h3⟩ := h.map
  exact { h with map := ⟨T, h1, h2, by omega⟩ }
theorem fresh (h : TalI b n cap bm mm L B r c G w) (hb : Below w.heap.size w w') (hg : ∀ k, G' k → (G k ∨ w.heap.size ≤ k) ∧ k < w'.heap.size) : TalI b n cap bm mm L B r c G' w' := by
  obtain ⟨T, h1, h2⟩ := h.map
  refine ⟨through hb h.b0 h.lt, through hb h.b1 h.lt, through hb h.b2 h.lt, ⟨T, h1.blk (hb.block mm h1.lt), h2⟩, h.lo, fun k hk => ⟨?_, (hg k hk).2⟩⟩
  rcases (hg k hk).1 with h' | h'
  · exact (h.out k h').1
  · have := h1.lt; omega
/-- A count has changed. -/
theorem put {T : Nat} (h : TalI b n cap bm mm L B r c G w) (hm : CMap w' mm T c') (hg : w.grownBy w' (some mm)) (hT : ∀ o, -(T : Int) ≤ c' o ∧ c' o ≤ (T : Int)) (hr : T + r' ≤ 1000000) : TalI b n cap bm mm L B r' c' G w' ∧ KeptC G w w' ∧ Below L w w' := by
  have hk : ∀ k, k < w.heap.size → k ≠ mm → w'.heap[k]? = w.heap[k]? := fun k hk hn => hg.block k hk (fun e => hn (Option.some.inj e))
  have e := hk B h.lt h.lo.2.2
  have cc : ∀ j v, w.cell? ⟨B, j, none⟩ = some v → w'.cell? ⟨B, j, none⟩ = some v := fun j v hv => (World.cell?_of_block (a := ⟨B, j, none⟩) e).trans hv
  exact ⟨⟨cc _ _ h.b0, cc _ _ h.b1, cc _ _ h.b2, ⟨T, hm, hT, hr⟩, h.lo, fun k hk => ⟨(h.out k hk).1, Nat.lt_of_lt_of_le (h.out k hk).2 hg.size⟩⟩, fun k hk' => hk k (h.out k hk').2 (h.out k hk').1, (Below.refl L w).grown hg h.low (fun k hk => by injection hk with hk; subst hk; exact h.lo.2.1)⟩
end TalI
theorem addC_few {T : Nat} {c : Int → Int} {d o : Int} (h : ∀ o, -(T : Int) ≤ c o ∧ c o ≤ (T : Int)) (hd : -1 ≤ d ∧ d ≤ 1) : ∀ k, -((T + 1 : Nat) : Int) ≤ addC d c o k ∧ addC d c o k ≤ ((T + 1 : Nat) : Int) := fun k => by
  have h1 := h o
  have h2 := h k
  unfold addC
  split <;> constructor <;> omega

set_option maxHeartbeats 2000000 in
theorem tallyGive_any {b n cap bm mm L B r : Nat} {c : Int → Int} {G : Nat → Prop} {w : World} (o : Int) (h : TalI b n cap bm mm L B (r + 1) c G w) (hwo : (Lit.int .i64 o).wf = true) :
    Calls Try.prog 46 #[.int .i64 o, .pointer (some ⟨B, 0, none⟩)] w fun e w' => e = .returned (.tuple #[]) ∧ TalI b n cap bm mm L B r (addC 1 c o) G w' ∧ KeptC G w w' ∧ Below L w w' := by
  obtain ⟨T, ⟨m, D, hD, hm, ha⟩, hc, hT⟩ := h.map
  have b2 := h.b2
  have hbl := h.lt
  have hao := ha o
  have hco := hc o
  have hw1 := wrap_id (x := c o + 1) (by omega) (by omega)
  have hwx : (Lit.int .i64 (c o + 1)).wf = true := by go_wf
  have HA : Hid (∀ o : Int, D.atKey (.int .i64 o) (.lit (.int .i64 0)) = .lit (.int .i64 (c o))) := ha
  have HC : Hid (∀ o, -(T : Int) ≤ c o ∧ c o ≤ (T : Int)) := hc
  clear ha hc hco
  go_enter Try.func46, Try.ntmps46
  go_wp2_with (first | (at_lookup; refine wpList_lookup_own_int _ rfl _ _ 44 rfl 3 3 .i64 key3 ty59 ty3 (zero3 _) mm m D rfl hD _ _ rfl (keyOf_int_mk ty3 hwo) ?_; intro x hat hwc; have hcs : x = c o := (by rw [hao] at hat; simp at hat; exact hat.symm); subst hcs; clear hat hwc) | (at_mapUpdate; refine wpList_mapUpdate_own _ rfl _ _ _ 44 rfl 3 3 key3 ty59 (plainElem Try.prog 3) mm m D rfl hD (by unfold maxLen; omega) _ _ _ rfl rfl (keyOf_int_mk ty3 hwo) _ [] (plainElem_int ty3 hwx) ?_; intro w7 hm7 hg7))
  go_end0
  exact ⟨rfl, h.put (CMap.put hD hm HA.out hm7) hg7 (addC_few HC.out (by decide)) (by omega)⟩
set_option maxHeartbeats 2000000 in
theorem tallyTake_any {b n cap bm mm L B r : Nat} {c : Int → Int} {G : Nat → Prop} {w : World} (o : Int) (h : TalI b n cap bm mm L B (r + 1) c G w) (hwo : (Lit.int .i64 o).wf = true) :
    Calls Try.prog 49 #[.int .i64 o, .pointer (some ⟨B, 0, none⟩)] w fun e w' => e = .returned (.tuple #[]) ∧ TalI b n cap bm mm L B r (addC (-1) c o) G w' ∧ KeptC G w w' ∧ Below L w w' := by
  obtain ⟨T, ⟨m, D, hD, hm, ha⟩, hc, hT⟩ := h.map
  have b2 := h.b2
  have hbl := h.lt
  have hao := ha o
  have hco := hc o
  have hw1 := wrap_id (x := c o - 1) (by omega) (by omega)
  have hwx : (Lit.int .i64 (c o - 1)).wf = true := by go_wf
  have HA : Hid (∀ o : Int, D.atKey (.int .i64 o) (.lit (.int .i64 0)) = .lit (.int .i64 (c o))) := ha
  have HC : Hid (∀ o, -(T : Int) ≤ c o ∧ c o ≤ (T : Int)) := hc
  clear ha hc hco
  go_enter Try.func49, Try.ntmps49
  go_wp2_with (first | (at_lookup; refine wpList_lookup_own_int _ rfl _ _ 44 rfl 3 3 .i64 key3 ty59 ty3 (zero3 _) mm m D rfl hD _ _ rfl (keyOf_int_mk ty3 hwo) ?_; intro x hat hwc; have hcs : x = c o := (by rw [hao] at hat; simp at hat; exact hat.symm); subst hcs; clear hat hwc) | (at_mapUpdate; refine wpList_mapUpdate_own _ rfl _ _ _ 44 rfl 3 3 key3 ty59 (plainElem Try.prog 3) mm m D rfl hD (by unfold maxLen; omega) _ _ _ rfl rfl (keyOf_int_mk ty3 hwo) _ [] (plainElem_int ty3 hwx) ?_; intro w7 hm7 hg7))
  go_end0
  exact ⟨rfl, h.put (CMap.put (d := -1) hD hm HA.out hm7) hg7 (addC_few HC.out (by decide)) (by omega)⟩
theorem tallyGive_enters (args : Array Value) (w : World) : Sem.run Try.prog (callFunc 46 args) w = .ok (.enter 46 args) w := by kernel_rfl
theorem tallyTake_enters (args : Array Value) (w : World) : Sem.run Try.prog (callFunc 49 args) w = .ok (.enter 49 args) w := by kernel_rfl
theorem tallyGive_does (b n cap bm mm L B : Nat) : Does 46 #[.pointer (some ⟨B, 0, none⟩)] (addC 1) L (TalI b n cap bm mm L B) :=
  ⟨tallyGive_enters, fun h hr => h.less hr, fun _ h hb hg => h.fresh hb hg, fun h hk => (h.out _ hk).2, fun h => h.low, fun o h hw => tallyGive_any o h hw⟩
theorem tallyTake_does (b n cap bm mm L B : Nat) : Does 49 #[.pointer (some ⟨B, 0, none⟩)] (addC (-1)) L (TalI b n cap bm mm L B) :=
  ⟨tallyTake_enters, fun h hr => h.less hr, fun _ h hb hg => h.fresh hb hg, fun h hk => (h.out _ hk).2, fun h => h.low, fun o h hw => tallyTake_any o h hw⟩

/-- Counts, with room for more. -/
def Tal (w : World) (mm r : Nat) (c : Int → Int) : Prop := ∃ T, CMap w mm T c ∧ (∀ o, -(T : Int) ≤ c o ∧ c o ≤ (T : Int)) ∧ T + r ≤ 1000000
theorem Tal.lt {w : World} {mm r : Nat} {c : Int → Int} (h : Tal w mm r c) : mm < w.heap.size := by obtain ⟨T, h1, _⟩ := h; exact h1.lt
theorem Tal.same {w w' : World} {mm r : Nat} {c : Int → Int} (h : Tal w mm r c) (hb : Below w.heap.size w w') : Tal w' mm r c := by
  obtain ⟨T, h1, h2⟩ := h
  exact ⟨T, h1.blk (hb.block mm h1.lt), h2⟩

set_option maxHeartbeats 2000000 in
theorem takeAway_any (W : List Int) (b cap bm mm L r : Nat) (c : Int → Int) (w : World) (hv : IsView w b cap bm W) (hb : b < L) (hbm : bm < L) (hm : L ≤ mm) (hu : unfit W 2 = none) (hl : W.length ≤ 2000) (hT : Tal w mm (r + 100 * (places W 2).length) c) :
    Calls Try.prog 22 #[tallyV b W.length cap bm mm] w fun e w' => e = .returned (.tuple #[]) ∧ Tal w' mm r ((thingsOf W (allLeads W)).foldl (addC (-1)) c) ∧ KeptC (fun k => k < w.heap.size ∧ k ≠ mm) w w' ∧ Below L w w' := by
  have hml := hT.lt
  have hI : TalI b W.length cap bm mm L w.heap.size (r + 100 * (places W 2).length) c (fun k => k < w.heap.size ∧ k ≠ mm) (w.alloc (.cells #[sl b W.length cap, .map (some bm), .map (some mm)] 55)) := by
    obtain ⟨t0, t1, t2, _⟩ := box3 (Below.refl (w.alloc (.cells #[sl b W.length cap, .map (some bm), .map (some mm)] 55)).heap.size (w.alloc (.cells #[sl b W.length cap, .map (some bm), .map (some mm)] 55)))
    exact ⟨t0, t1, t2, hT.same ((Below.refl _ _).alloc (Nat.le_refl _) _), ⟨by omega, hm, by omega⟩, fun k hk => ⟨hk.2, by simp; omega⟩⟩
  have t0 := hI.b0
  have t1 := hI.b1
  have t2 := hI.b2
  have HC : Hid (Calls Try.prog 48 #[tallyV b W.length cap bm mm, .func (.func 49) #[] #[.pointer (some ⟨w.heap.size, 0, none⟩)]] (w.alloc (.cells #[sl b W.length cap, .map (some bm), .map (some mm)] 55)) (DoesAns (TalI b W.length cap bm mm L w.heap.size) r ((thingsOf W (allLeads W)).foldl (addC (-1)) c) (fun k => k < w.heap.size ∧ k ≠ mm) L _)) :=
    cteachGiven_any (tallyTake_does b W.length cap bm mm L w.heap.size) W b cap bm mm r c (fun k => k < w.heap.size ∧ k ≠ mm) _ (hv.alloc _) hb hbm hu hl hI
  clear hI
  go_enter Try.func22, Try.ntmps22
  go_wp2_with (go_at_call 48; refine HC.out.mono ?_; rintro e w2 ⟨rfl, hI2, hK2, hB2⟩)
  go_end0
  exact ⟨rfl, hI2.map, fun k hk => (hK2 k hk).trans (Below.heap_alloc _ _ _ hk.1), ((Below.refl _ _).alloc (by omega) _).trans hB2⟩
end Go.Proofs.Ythdhaokjibfjdaa
