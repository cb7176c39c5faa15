/- Package count: giveBack. -/
import Derived.Test.YthdhaokjibfjdaaCtAll
namespace Go.Proofs.Ythdhaokjibfjdaa
open Go.RowKit
open Go.Maps (Keyed keyOf_int_mk)

/-- A tally in box B, and in box H the row of those that are held: it lies from block N on. -/
structure HeldP (b n cap bm mm L B H N r : Nat) (c : Int → Int) (h : List Int) (vf : Value) (G : Nat → Prop) (w : World) : Prop where
  tal : TalI b n cap bm mm L B r c G w
  h0 : w.cell? ⟨H, 0, none⟩ = some vf
  hz : w.frozen? ⟨H, 0, none⟩ = false
  own : w.ownsRow N 3 1 vf h.length (vals h)
  few : h.length + r ≤ 1000000
  ho : L ≤ H ∧ L ≤ N ∧ H ≠ mm ∧ H ≠ B ∧ mm < N ∧ B < N ∧ N ≤ w.heap.size
  nh : vf.ownBlock ≠ some H
  nG : ∀ k, G k → k ≠ H ∧ vf.ownBlock ≠ some k
namespace HeldP
variable {b n cap bm mm L B H N r r' : Nat} {c c' : Int → Int} {h : List Int} {vf v' : Value} {G G' : Nat → Prop} {w w' : World} {o : Int}
theorem hlt (x : HeldP b n cap bm mm L B H N r c h vf G w) : H < w.heap.size := World.block_lt_of_cell? _ _ x.h0
theorem less (x : HeldP b n cap bm mm L B H N r c h vf G w) (hr : r' ≤ r) : HeldP b n cap bm mm L B H N r' c h vf G w :=
  { x with tal := x.tal.less hr, few := by have := x.few; omega }
theorem fresh (x : HeldP b n cap bm mm L B H N r c h vf G w) (hb : Below w.heap.size w w') (hg : ∀ k, G' k → (G k ∨ w.heap.size ≤ k) ∧ k < w'.heap.size) : HeldP b n cap bm mm L B H N r c h vf G' w' := by
  have hl := x.hlt
  obtain ⟨a1, a2, a3, a4, a5, a6, a7⟩ := x.ho
  refine ⟨x.tal.fresh hb hg, through hb x.h0 hl, throughF hb x.hz hl, own_same x.own fun g hg => hb.block g (x.own.lt g hg).2, x.few, ⟨a1, a2, a3, a4, a5, a6, Nat.le_trans a7 hb.size⟩, x.nh, fun k hk => ?_⟩
  rcases (hg k hk).1 with h' | h'
  · exact x.nG k h'
  · exact ⟨by omega, fun e => by have := (x.own.lt k e).2; omega⟩
/-- One more is held. -/
theorem rowed {ob : Obj} {w4 : World} (x : HeldP b n cap bm mm L B H N (r + 1) c h vf G w) (hown : w4.ownsRow N 3 1 v' (h.length + 1) (vals h ++ [.int .i64 o])) (hg : (w.alloc ob).grownBy w4 vf.ownBlock) (hw : v'.ownBlock = vf.ownBlock ∨ v'.ownBlock = some (w.alloc ob).heap.size) :
    TalI b n cap bm mm L B (r + 1) c G (w4.setCell ⟨H, 0, none⟩ v') ∧ (w4.setCell ⟨H, 0, none⟩ v').cell? ⟨H, 0, none⟩ = some v' ∧ (w4.setCell ⟨H, 0, none⟩ v').frozen? ⟨H, 0, none⟩ = false ∧ (w4.setCell ⟨H, 0, none⟩ v').ownsRow N 3 1 v' (h ++ [o]).length (vals (h ++ [o])) ∧ v'.ownBlock ≠ some H ∧ (∀ k, G k → v'.ownBlock ≠ some k) ∧ KeptC G w (w4.setCell ⟨H, 0, none⟩ v') ∧ Below L w (w4.setCell ⟨H, 0, none⟩ v') ∧
    w4.cell? ⟨H, 0, none⟩ = some vf ∧ w4.frozen? ⟨H, 0, none⟩ = false ∧ w4.cell? ⟨B, 2, none⟩ = some (.map (some mm)) ∧ H < w4.heap.size ∧ B < w4.heap.size ∧ (w4.setCell ⟨H, 0, none⟩ v').heap[mm]? = w.heap[mm]? := by
  have hl := x.hlt
  have hbl := x.tal.lt
  have hml := x.tal.mlt
  obtain ⟨a1, a2, a3, a4, a5, a6, a7⟩ := x.ho
  have hsz := hg.size
  simp at hsz
  have hk : ∀ k, k < w.heap.size → vf.ownBlock ≠ some k → w4.heap[k]? = w.heap[k]? := fun k hk hn => (hg.block k (by simp; omega) (fun e => hn e.symm)).trans (Below.heap_alloc _ _ _ hk)
  have hnf : ∀ k, k < N → vf.ownBlock ≠ some k := fun k hk e => by have := (x.own.lt k e).1; omega
  have eB := hk B hbl (hnf B a6)
  have eM := hk mm hml (hnf mm a5)
  have eH := hk H hl x.nh
  have cB : ∀ j v, w.cell? ⟨B, j, none⟩ = some v → w4.cell? ⟨B, j, none⟩ = some v := fun j v hv => (World.cell?_of_block (a := ⟨B, j, none⟩) eB).trans hv
  have cB' : ∀ j v, w.cell? ⟨B, j, none⟩ = some v → (w4.setCell ⟨H, 0, none⟩ v').cell? ⟨B, j, none⟩ = some v := fun j v hv => by
    rw [World.cell?_setCell_other _ _ _ _ (fun e => a4 (by injection e))]; exact cB j v hv
  have cH := (World.cell?_of_block (a := ⟨H, 0, none⟩) eH).trans x.h0
  have zH := (World.frozen?_of_block (a := ⟨H, 0, none⟩) eH).trans x.hz
  have hsc : (w4.setCell ⟨H, 0, none⟩ v').heap.size = w4.heap.size := by simp [World.setCell]
  have hnv : ∀ k, k < w.heap.size → vf.ownBlock ≠ some k → v'.ownBlock ≠ some k := fun k hk hn e => by
    rcases hw with h1 | h1
    · exact hn (h1.symm.trans e)
    · rw [h1] at e; injection e with e; simp at e; omega
  have hB : Below L w (w4.setCell ⟨H, 0, none⟩ v') := (((Below.refl L w).alloc x.tal.low ob).grown hg (by simp; have := x.tal.low; omega) (fun k hk => by have := (x.own.lt k hk).1; omega)).setCell (p := ⟨H, 0, none⟩) (by exact a1) v'
  have hvn := hnv H hl x.nh
  have hk9 : ∀ k, G k → w4.heap[k]? = w.heap[k]? := fun k hk0 => hk k (x.tal.out k hk0).2 (x.nG k hk0).2
  obtain ⟨T, t1, t2⟩ := x.tal.map
  refine ⟨⟨cB' _ _ x.tal.b0, cB' _ _ x.tal.b1, cB' _ _ x.tal.b2, ⟨T, t1.blk ((Below.heap_setCell _ _ _ _ (fun e => a3 e.symm)).trans eM), t2⟩, x.tal.lo, fun k hk => ⟨(x.tal.out k hk).1, by have := (x.tal.out k hk).2; omega⟩⟩, World.cell?_setCell_same' _ _ _ (by rw [cH]; rfl), by rw [World.frozen?_setCell]; exact zH, ?_, hvn, fun k hk => hnv k (x.tal.out k hk).2 (x.nG k hk).2, fun k hk => (Below.heap_setCell _ _ _ _ (x.nG k hk).1).trans (hk9 k hk), hB, cH, zH, cB _ _ x.tal.b2, by omega, by omega, (Below.heap_setCell _ _ _ _ (fun e => a3 e.symm)).trans eM⟩
  have : w4.ownsRow N 3 1 v' (h ++ [o]).length (vals (h ++ [o])) := by simpa [vals] using hown
  exact own_same this fun g hg' => Below.heap_setCell _ _ _ _ (fun e => hvn (by rw [hg', e]))
end HeldP

/-- The same, wherever the row is. -/
def HeldI (b n cap bm mm L B H N : Nat) (r : Nat) (s : Hs) (G : Nat → Prop) (w : World) : Prop := ∃ vf, HeldP b n cap bm mm L B H N r s.1 s.2 vf G w

theorem ownsMap_blkC {w w' : World} {mm n : Nat} {D : DataW Unit} (h : w.ownsMap Try.prog 3 (plainElem Try.prog 3) mm n D) (e : w'.heap[mm]? = w.heap[mm]?) : w'.ownsMap Try.prog 3 (plainElem Try.prog 3) mm n D := by
  obtain ⟨es, clock, hb0, r⟩ := h
  exact ⟨es, clock, by rw [e]; exact hb0, r⟩
theorem counted_row {w w' : World} {H N mm : Nat} {vf : Value} {h : List Int} (h0 : w.cell? ⟨H, 0, none⟩ = some vf) (hz : w.frozen? ⟨H, 0, none⟩ = false) (own : w.ownsRow N 3 1 vf h.length (vals h)) (hg : w.grownBy w' (some mm)) (hHm : H ≠ mm) (hmN : mm < N) :
    w'.cell? ⟨H, 0, none⟩ = some vf ∧ w'.frozen? ⟨H, 0, none⟩ = false ∧ w'.ownsRow N 3 1 vf h.length (vals h) := by
  have e := hg.block H (World.block_lt_of_cell? _ _ h0) (fun e => hHm (Option.some.inj e))
  exact ⟨(World.cell?_of_block (a := ⟨H, 0, none⟩) e).trans h0, (World.frozen?_of_block (a := ⟨H, 0, none⟩) e).trans hz, own_same own fun g hg' => hg.block g (own.lt g hg').2 (fun e => by have := (own.lt g hg').1; have e' := Option.some.inj e; omega)⟩

set_option maxHeartbeats 4000000 in
set_option maxRecDepth 20000 in
theorem give_any {b n cap bm mm L B H N r : Nat} {s : Hs} {G : Nat → Prop} {w : World} (o : Int) (h : HeldI b n cap bm mm L B H N (r + 1) s G w) (hwo : (Lit.int .i64 o).wf = true) :
    Calls Try.prog 51 #[.int .i64 o, .pointer (some ⟨B, 0, none⟩), .pointer (some ⟨H, 0, none⟩)] w fun e w' => e = .returned (.tuple #[]) ∧ HeldI b n cap bm mm L B H N r (giveH s o) G w' ∧ KeptC G w w' ∧ Below L w w' := by
  obtain ⟨vf, x⟩ := h
  obtain ⟨c, hs⟩ := s
  have x : HeldP b n cap bm mm L B H N (r + 1) c hs vf G w := x
  obtain ⟨T, ⟨m, D, hD, hm, ha⟩, hc, hT⟩ := x.tal.map
  have b2 := x.tal.b2
  have hbl := x.tal.lt
  have hHl := x.hlt
  have h0 := x.h0
  have hao := ha o
  have hco := hc o
  have hfw := x.few
  have hw1 := wrap_id (x := c o + 1) (by omega) (by omega)
  have hwx : (Lit.int .i64 (c o + 1)).wf = true := by go_wf
  have hNs := x.ho.2.2.2.2.2.2
  obtain ⟨_, _, hHm, hHB, hmN, _, _⟩ := x.ho
  have HA : Hid (∀ o : Int, D.atKey (.int .i64 o) (.lit (.int .i64 0)) = .lit (.int .i64 (c o))) := ha
  have HC : Hid (∀ o, -(T : Int) ≤ c o ∧ c o ≤ (T : Int)) := hc
  obtain ⟨ad, cf, hvf⟩ := own_form x.own
  subst hvf
  clear ha hc hco
  by_cases hz : c o = 0
  · have HE : Hid (giveH (c, hs) o = (addC 1 c o, hs ++ [o])) := by show giveH (c, hs) o = _; unfold giveH; simp only; rw [if_pos hz]
    have hzb : (c o == 0) = true := by simpa using hz
    have hBH : ¬ B = H := fun e => hHB e.symm
    rw [hz] at hao
    have HZ : Hid (c o = 0) := hz
    have hw9 : (Lit.int .i64 1).wf = true := by decide
    clear hz hzb hw1 hwx
    go_enter Try.func51, Try.ntmps51
    go_wp2_with (first
      | (at_lookup; refine wpList_lookup_own_int _ rfl _ _ 44 rfl 3 3 .i64 key3 ty59 ty3 (zero3 _) mm m D rfl hD5 _ _ rfl (keyOf_int_mk ty3 hwo) ?_; intro y hat hwc; have hcs : y = 0 := (by rw [hao] at hat; simp at hat; exact hat.symm); subst hcs; clear hat hwc)
      | (at_lookup; refine wpList_lookup_own_int _ rfl _ _ 44 rfl 3 3 .i64 key3 ty59 ty3 (zero3 _) mm m D rfl hD _ _ rfl (keyOf_int_mk ty3 hwo) ?_; intro y hat hwc; have hcs : y = 0 := (by rw [hao] at hat; simp at hat; exact hat.symm); subst hcs; clear hat hwc)
      | (at_builtin; refine wpList_append_where rfl (.tmp 9) (.tmp 11) rfl N hs.length 1 _ (.int .i64 o) (vals hs) rfl (x.own.alloc _) ⟨w.heap.size, 0, none⟩ rfl (cell_one_new _ _ _) rfl (by omega) (by simp; omega) ?_; intro v' w4 hown4 hg4 hw4; obtain ⟨g5, c5, hv5⟩ := own_slice hown4; subst hv5; obtain ⟨tal5, cH5, zH5, own5, nh5, ng5, hK5, hB5, cH4, zH4, cB4, hHs4, hBs4, eM5⟩ := x.rowed hown4 hg4 hw4; have hD5 := ownsMap_blkC hD eM5)
      | (at_mapUpdate; refine wpList_mapUpdate_own _ rfl _ _ _ 44 rfl 3 3 key3 ty59 (plainElem Try.prog 3) mm m D rfl hD5 (by unfold maxLen; omega) _ _ _ rfl rfl (keyOf_int_mk ty3 hwo) _ [] (plainElem_int ty3 hw9) ?_; intro w7 hm7 hg7))
    obtain ⟨tal7, hK7, hB7⟩ := tal5.put (r' := r) (CMap.put (c := c) (d := 1) hD5 hm HA.out (by rw [HZ.out]; exact hm7)) hg7 (addC_few HC.out (by decide)) (by omega)
    obtain ⟨r1, r2, r3⟩ := counted_row cH5 zH5 own5 hg7 hHm hmN
    go_end0
    rw [HE.out]
    exact ⟨rfl, ⟨_, tal7, r1, r2, r3, by simp; omega, ⟨x.ho.1, x.ho.2.1, hHm, hHB, hmN, x.ho.2.2.2.2.2.1, Nat.le_trans hNs (by have := hB5.size; have := hB7.size; omega)⟩, nh5, fun k hk => ⟨(x.nG k hk).1, ng5 k hk⟩⟩, hK5.trans hK7, hB5.trans hB7⟩
  · have HE : Hid (giveH (c, hs) o = (addC 1 c o, hs)) := by show giveH (c, hs) o = _; unfold giveH; simp only; rw [if_neg hz]
    have hzb : (c o == 0) = false := by simpa using hz
    generalize hX : c o = X at *
    go_enter Try.func51, Try.ntmps51
    go_wp2_with (first
      | (at_lookup; refine wpList_lookup_own_int _ rfl _ _ 44 rfl 3 3 .i64 key3 ty59 ty3 (zero3 _) mm m D rfl hD _ _ rfl (keyOf_int_mk ty3 hwo) ?_; intro y hat hwc; have hcs : X = y := (by rw [hao] at hat; simp at hat; exact hat); subst hcs; clear hat hwc)
      | (at_mapUpdate; refine wpList_mapUpdate_own _ rfl _ _ _ 44 rfl 3 3 key3 ty59 (plainElem Try.prog 3) mm m D rfl hD (by unfold maxLen; omega) _ _ _ rfl rfl (keyOf_int_mk ty3 hwo) _ [] (plainElem_int ty3 hwx) ?_; intro w7 hm7 hg7))
    obtain ⟨tal7, hK7, hB7⟩ := x.tal.put (r' := r) (CMap.put (c := c) (d := 1) hD hm HA.out (by rw [hX]; exact hm7)) hg7 (addC_few HC.out (by decide)) (by omega)
    obtain ⟨r1, r2, r3⟩ := counted_row x.h0 x.hz x.own hg7 hHm hmN
    go_end0
    rw [HE.out]
    exact ⟨rfl, ⟨_, tal7, r1, r2, r3, by simp only; omega, ⟨x.ho.1, x.ho.2.1, hHm, hHB, hmN, x.ho.2.2.2.2.2.1, Nat.le_trans hNs (by have := hB7.size; omega)⟩, x.nh, x.nG⟩, hK7, hB7⟩
theorem give_enters (args : Array Value) (w : World) : Sem.run Try.prog (callFunc 51 args) w = .ok (.enter 51 args) w := by kernel_rfl
theorem give_does (b n cap bm mm L B H N : Nat) : Does 51 #[.pointer (some ⟨B, 0, none⟩), .pointer (some ⟨H, 0, none⟩)] giveH L (HeldI b n cap bm mm L B H N) :=
  ⟨give_enters, fun ⟨vf, h⟩ hr => ⟨vf, h.less hr⟩, fun _ ⟨vf, h⟩ hb hg => ⟨vf, h.fresh hb hg⟩, fun ⟨_, h⟩ hk => (h.tal.out _ hk).2, fun ⟨_, h⟩ => h.tal.low, fun o h hw => give_any o h hw⟩
end Go.Proofs.Ythdhaokjibfjdaa
