/- Several texts in one. -/
import Derived.Test.YthdhaokjibfjdaaGj
/- Package count: all. -/
namespace Go.Proofs.Ythdhaokjibfjdaa
open Go.RowKit
open Go.Maps (Keyed keyOf_int_mk)

/-- A function that asks of a number. -/
structure AsksC (K : Nat) (p : Int → Bool) : Prop where
  enters : ∀ (args : Array Value) (w : World), Sem.run Try.prog (callFunc K args) w = .ok (.enter K args) w
  says : ∀ (x : Int) (w : World), Calls Try.prog K #[.int .i64 x] w fun e w' => e = .returned (.bool (p x)) ∧ w' = w
theorem asksZero : AsksC 25 (fun x => decide (x = 0)) := by
  refine ⟨fun args w => by kernel_rfl, fun x w => ?_⟩
  have hd : (x == 0) = decide (x = 0) := by rw [Bool.eq_iff_iff]; simp
  go_enter Try.func25, Try.ntmps25
  go_wp2
  go_ret
  exact ⟨by rw [← hd]; rfl, rfl⟩
theorem asksMore : AsksC 50 (fun x => decide (0 < x)) := by
  refine ⟨fun args w => by kernel_rfl, fun x w => ?_⟩
  go_enter Try.func50, Try.ntmps50
  go_wp2
  go_ret
  exact ⟨rfl, rfl⟩
theorem ctplaces_few {W : List Int} (hl : W.length ≤ 2000) : (places W 2).length ≤ 2000 := by
  have h4 := (places_nodup (W := W) _ 2 (Nat.le_refl _)).length_le_of_subset (l₂ := List.range W.length) fun p hp => List.mem_range.2 (place_ge hp).2
  rw [List.length_range] at h4; omega

set_option maxHeartbeats 4000000 in
theorem ctall_any {K : Nat} {p : Int → Bool} (A : AsksC K p) (W : List Int) (b cap bm mm T : Nat) (c : Int → Int) (w : World) (hv : IsView w b cap bm W) (hu : unfit W 2 = none) (hl : W.length ≤ 2000) (hM : CMap w mm T c) :
    Calls Try.prog 24 #[tallyV b W.length cap bm mm, .func (.func K) #[] #[]] w fun e w' => OwnedAny w.heap.size (refs ((places W 2).filter fun q : Nat => p (c (2 * (q : Int))))) e w' ∧ Below w.heap.size w w' := by
  obtain ⟨i0, hi, hz0, hz1, hz2⟩ := info_parts info3
  have hent := A.enters
  have hml := hM.lt
  have hpf := ctplaces_few hl
  generalize hG : ((places W 2).filter fun q : Nat => p (c (2 * (q : Int)))) = G
  have HG : Hid (((places W 2).filter fun q : Nat => p (c (2 * (q : Int)))) = G) := hG
  clear hG
  go_enter Try.func24, Try.ntmps24
  go_wp2_with (first | (go_at_call 26; refine (things_any W b cap bm _ (hv.alloc _) hu hl).mono ?_; rintro e w1 ⟨⟨tad, tc, rfl, hown1⟩, hb1⟩))
  have hb01 := below_call hb1
  obtain ⟨t0, t1, t2, hz1'⟩ := box3 hb1
  obtain ⟨n, D, hD0, hDn, hDa⟩ := hM
  have hD1 := ownsMap_below hD0 hb01 hml
  have hln : (refs (places W 2)).length = (places W 2).length := refs_length _
  have hown1' : w1.ownsRow (w.heap.size + 1) 3 1 (.slice tad (refs (places W 2)).length tc) (refs (places W 2)).length (vals (refs (places W 2))) := by simpa using hown1
  have HO : Hid (w1.ownsRow (w.heap.size + 1) 3 1 (.slice tad (refs (places W 2)).length tc) (refs (places W 2)).length (vals (refs (places W 2)))) := hown1'
  have HL : Hid ((refs (places W 2)).length = (places W 2).length) := hln
  have HDa : Hid (∀ o : Int, D.atKey (.int .i64 o) (.lit (.int .i64 0)) = .lit (.int .i64 (c o))) := hDa
  clear hown1 hown1' hln hD0 hDa hb1
  go_loopw [5, 12] (fun v s wr => ∃ (i : Nat) (pre : List Nat), s = .int .i64 i ∧ i ≤ (refs (places W 2)).length ∧ Hid (G = pre ++ ((places W 2).drop i).filter fun q : Nat => p (c (2 * (q : Int)))) ∧ pre.length ≤ i ∧ wr.ownsRow w1.heap.size 3 1 v pre.length (vals (refs pre)) ∧ Below w1.heap.size w1 wr) (fun _ s _ => (refs (places W 2)).length - (intOf s).toNat)
  case atStart => exact ⟨0, [], rfl, Nat.zero_le _, HG.out.symm, Nat.zero_le _, World.ownsRow_nil _ _ _ _, Below.refl _ _⟩
  case round =>
    obtain ⟨i, pre, rfl, hi', HK, hpre, hown, hB⟩ := hrel
    by_cases hlt : i < (refs (places W 2)).length
    · have hii : (i : Int) < ((refs (places W 2)).length : Int) := by omega
      have hi2 : i < (places W 2).length := by have := HL.out; omega
      obtain ⟨g, cg, hsh, hge, hown0⟩ := own_shape HO.out (fun e => by injection e with _ h1 _; omega)
      simp only [Value.slice.injEq, true_and] at hsh
      obtain ⟨rfl, rfl⟩ := hsh
      have hcl := own_cell hown0 hlt
      have hgl := own_lt hown0
      have hcw := through hB hcl hgl
      have hgw : g < wr.heap.size := Nat.lt_of_lt_of_le hgl hB.size
      have hmem : (places W 2)[i] ∈ places W 2 := List.getElem_mem hi2
      have hwdi : wd (refs (places W 2)) i = 2 * ((places W 2)[i] : Int) := by
        unfold wd refs; rw [List.getD_eq_getElem?_getD, List.getElem?_map, List.getElem?_eq_getElem hi2]; rfl
      have hpg := (place_ge hmem).2
      rw [hwdi] at hcw
      have x0 := through hB t0 hz1'
      have x1 := through hB t1 hz1'
      have x2 := through hB t2 hz1'
      have hzb := World.block_lt_of_cell? _ _ x0
      have hD := ownsMap_below hD1 hB (by have := hb01.size; omega)
      have hav := HDa.out (2 * ((places W 2)[i] : Int))
      have hwp1 := wrap_id (x := (i : Int) + 1) (by omega) (by omega)
      have HK' : Hid (G = pre ++ (if p (c (2 * ((places W 2)[i] : Int))) = true then [(places W 2)[i]] else []) ++ ((places W 2).drop (i + 1)).filter fun q : Nat => p (c (2 * (q : Int)))) := by
        have := HK.out
        rw [List.drop_eq_getElem_cons hi2, List.filter_cons] at this
        show _ = _
        rw [this]
        split <;> simp
      clear HK hcl hwdi hmem
      generalize (places W 2)[i] = q at *
      have hwf : (Lit.int .i64 (2 * (q : Int))).wf = true := by go_wf
      cases hx : p (c (2 * (q : Int))) with
      | true =>
        rw [hx, if_pos rfl] at HK'
        generalize c (2 * (q : Int)) = X at *
        go_wp2_with (first | (at_lookup; refine wpList_lookup_own_int _ rfl _ _ 44 rfl 3 3 .i64 key3 ty59 ty3 (zero3 _) mm n D rfl hD _ _ rfl (keyOf_int_mk ty3 hwf) ?_; intro y hat hwc; have hcs : y = X := (by rw [hav] at hat; simp at hat; exact hat.symm); subst hcs; clear hat hwc) | (refine (A.says _ _).mono ?_; rw [hx]; rintro e w3 ⟨rfl, hw3⟩; rw [hw3]; clear hw3 w3) | (at_builtin; refine wpList_append_where rfl (.tmp 22) (.tmp 24) rfl w1.heap.size pre.length 1 _ (.int .i64 (2 * (q : Int))) (vals (refs pre)) rfl (hown.alloc _) ⟨wr.heap.size, 0, none⟩ rfl (cell_one_new _ _ _) rfl (by have := HL.out; omega) (by have := hB.size; simp; omega) ?_; intro v' w4 hown4 hg4 hw4))
        have hsz4 := hg4.size
        have hB4 : Below w1.heap.size w1 w4 := (hB.alloc hB.size _).grown hg4 (by have := hB.size; simp; omega) (fun k hk => (hown.lt k hk).1)
        go_roundw
        case rel => exact ⟨i + 1, pre ++ [q], by first | rfl | simp, by omega, HK', by simp; omega, by rw [refs_snoc, List.length_append]; exact hown4, hB4⟩
        case measure => simp [intOf]; omega
      | false =>
        rw [hx, if_neg (by decide), List.append_nil] at HK'
        generalize c (2 * (q : Int)) = X at *
        go_wp2_with (first | (at_lookup; refine wpList_lookup_own_int _ rfl _ _ 44 rfl 3 3 .i64 key3 ty59 ty3 (zero3 _) mm n D rfl hD _ _ rfl (keyOf_int_mk ty3 hwf) ?_; intro y hat hwc; have hcs : y = X := (by rw [hav] at hat; simp at hat; exact hat.symm); subst hcs; clear hat hwc) | (refine (A.says _ _).mono ?_; rw [hx]; rintro e w3 ⟨rfl, hw3⟩; rw [hw3]; clear hw3 w3))
        go_roundw
        case rel => exact ⟨i + 1, pre, by first | rfl | simp, by omega, HK', by omega, hown, hB⟩
        case measure => simp [intOf]; omega
    · have hii : ¬ (i : Int) < ((refs (places W 2)).length : Int) := by omega
      have HE : Hid (G = pre) := by
        have := HK.out
        rw [List.drop_eq_nil_of_le (by have := HL.out; omega)] at this
        show _ = _
        rw [this]; simp
      clear HK
      go_wp2_with fail
      go_ret
      rw [HE.out]
      refine ⟨owned_any (refs_length pre).symm (own_mono hb01.size hown), hb01.trans (hB.mono hb01.size)⟩
end Go.Proofs.Ythdhaokjibfjdaa

/- Package count: giveBack. -/
namespace Go.Proofs.Ythdhaokjibfjdaa
open Go.RowKit
open Go.Maps (Keyed keyOf_int_mk)

/-- A tally in box B, and in box H the row of those that are held: it lies from block N on. -/
structure HeldP (b n cap bm mm L B H N r : Nat) (c : Int → Int) (h : List Int) (vf : Value) (G : Nat → Prop) (w : World) : Prop where
  tal : TalI b n cap bm mm L B r c G w
  h0 : w.cell? ⟨H, 0, none⟩ = some vf
  hz : w.frozen? ⟨H, 0, none⟩ = false
  own : w.ownsRow N 3 1 vf h.length (vals h)
  few : h.length + r ≤ 1000000
  ho : L ≤ H ∧ L ≤ N ∧ H ≠ mm ∧ H ≠ B ∧ mm < N ∧ B < N ∧ N ≤ w.heap.size
  nh : vf.ownBlock ≠ some H
  nG : ∀ k, G k → k ≠ H ∧ vf.ownBlock ≠ some k
namespace HeldP
variable {b n cap bm mm L B H N r r' : Nat} {c c' : Int → Int} {h : List Int} {vf v' : Value} {G G' : Nat → Prop} {w w' : World} {o : Int}
theorem hlt (x : HeldP b n cap bm mm L B H N r c h vf G w) : H < w.heap.size := World.block_lt_of_cell? _ _ x.h0
theorem less (x : HeldP b n cap bm mm L B H N r c h vf G w) (hr : r' ≤ r) : HeldP b n cap bm mm L B H N r' c h vf G w :=
  { x with tal := x.tal.less hr, few := by have := x.few; omega }
theorem fresh (x : HeldP b n cap bm mm L B H N r c h vf G w) (hb : Below w.heap.size w w') (hg : ∀ k, G' k → (G k ∨ w.heap.size ≤ k) ∧ k < w'.heap.size) : HeldP b n cap bm mm L B H N r c h vf G' w' := by
  have hl := x.hlt
  obtain ⟨a1, a2, a3, a4, a5, a6, a7⟩ := x.ho
  refine ⟨x.tal.fresh hb hg, through hb x.h0 hl, throughF hb x.hz hl, own_same x.own fun g hg => hb.block g (x.own.lt g hg).2, x.few, ⟨a1, a2, a3, a4, a5, a6, Nat.le_trans a7 hb.size⟩, x.nh, fun k hk => ?_⟩
  rcases (hg k hk).1 with h' | h'
  · exact x.nG k h'
  · exact ⟨by omega, fun e => by have := (x.own.lt k e).2; omega⟩
/-- One more is held. -/
theorem rowed {ob : Obj} {w4 : World} (x : HeldP b n cap bm mm L B H N (r + 1) c h vf G w) (hown : w4.ownsRow N 3 1 v' (h.length + 1) (vals h ++ [.int .i64 o])) (hg : (w.alloc ob).grownBy w4 vf.ownBlock) (hw : v'.ownBlock = vf.ownBlock ∨ v'.ownBlock = some (w.alloc ob).heap.size) :
    TalI b n cap bm mm L B (r + 1) c G (w4.setCell ⟨H, 0, none⟩ v') ∧ (w4.setCell ⟨H, 0, none⟩ v').cell? ⟨H, 0, none⟩ = some v' ∧ (w4.setCell ⟨H, 0, none⟩ v').frozen? ⟨H, 0, none⟩ = false ∧ (w4.setCell ⟨H, 0, none⟩ v').ownsRow N 3 1 v' (h ++ [o]).length (vals (h ++ [o])) ∧ v'.ownBlock ≠ some H ∧ (∀ k, G k → v'.ownBlock ≠ some k) ∧ KeptC G w (w4.setCell ⟨H, 0, none⟩ v') ∧ Below L w (w4.setCell ⟨H, 0, none⟩ v') ∧
    w4.cell? ⟨H, 0, none⟩ = some vf ∧ w4.frozen? ⟨H, 0, none⟩ = false ∧ w4.cell? ⟨B, 2, none⟩ = some (.map (some mm)) ∧ H < w4.heap.size ∧ B < w4.heap.size ∧ (w4.setCell ⟨H, 0, none⟩ v').heap[mm]? = w.heap[mm]? := by
  have hl := x.hlt
  have hbl := x.tal.lt
  have hml := x.tal.mlt
  obtain ⟨a1, a2, a3, a4, a5, a6, a7⟩ := x.ho
  have hsz := hg.size
  simp at hsz
  have hk : ∀ k, k < w.heap.size → vf.ownBlock ≠ some k → w4.heap[k]? = w.heap[k]? := fun k hk hn => (hg.block k (by simp; omega) (fun e => hn e.symm)).trans (Below.heap_alloc _ _ _ hk)
  have hnf : ∀ k, k < N → vf.ownBlock ≠ some k := fun k hk e => by have := (x.own.lt k e).1; omega
  have eB := hk B hbl (hnf B a6)
  have eM := hk mm hml (hnf mm a5)
  have eH := hk H hl x.nh
  have cB : ∀ j v, w.cell? ⟨B, j, none⟩ = some v → w4.cell? ⟨B, j, none⟩ = some v := fun j v hv => (World.cell?_of_block (a := ⟨B, j, none⟩) eB).trans hv
  have cB' : ∀ j v, w.cell? ⟨B, j, none⟩ = some v → (w4.setCell ⟨H, 0, none⟩ v').cell? ⟨B, j, none⟩ = some v := fun j v hv => by
    rw [World.cell?_setCell_other _ _ _ _ (fun e => a4 (by injection e))]; exact cB j v hv
  have cH := (World.cell?_of_block (a := ⟨H, 0, none⟩) eH).trans x.h0
  have zH := (World.frozen?_of_block (a := ⟨H, 0, none⟩) eH).trans x.hz
  have hsc : (w4.setCell ⟨H, 0, none⟩ v').heap.size = w4.heap.size := by simp [World.setCell]
  have hnv : ∀ k, k < w.heap.size → vf.ownBlock ≠ some k → v'.ownBlock ≠ some k := fun k hk hn e => by
    rcases hw with h1 | h1
    · exact hn (h1.symm.trans e)
    · rw [h1] at e; injection e with e; simp at e; omega
  have hB : Below L w (w4.setCell ⟨H, 0, none⟩ v') := (((Below.refl L w).alloc x.tal.low ob).grown hg (by simp; have := x.tal.low; omega) (fun k hk => by have := (x.own.lt k hk).1; omega)).setCell (p := ⟨H, 0, none⟩) (by exact a1) v'
  have hvn := hnv H hl x.nh
  have hk9 : ∀ k, G k → w4.heap[k]? = w.heap[k]? := fun k hk0 => hk k (x.tal.out k hk0).2 (x.nG k hk0).2
  obtain ⟨T, t1, t2⟩ := x.tal.map
  refine ⟨⟨cB' _ _ x.tal.b0, cB' _ _ x.tal.b1, cB' _ _ x.tal.b2, ⟨T, t1.blk ((Below.heap_setCell _ _ _ _ (fun e => a3 e.symm)).trans eM), t2⟩, x.tal.lo, fun k hk => ⟨(x.tal.out k hk).1, by have := (x.tal.out k hk).2; omega⟩⟩, World.cell?_setCell_same' _ _ _ (by rw [cH]; rfl), by rw [World.frozen?_setCell]; exact zH, ?_, hvn, fun k hk => hnv k (x.tal.out k hk).2 (x.nG k hk).2, fun k hk => (Below.heap_setCell _ _ _ _ (x.nG k hk).1).trans (hk9 k hk), hB, cH, zH, cB _ _ x.tal.b2, by omega, by omega, (Below.heap_setCell _ _ _ _ (fun e => a3 e.symm)).trans eM⟩
  have : w4.ownsRow N 3 1 v' (h ++ [o]).length (vals (h ++ [o])) := by simpa [vals] using hown
  exact own_same this fun g hg' => Below.heap_setCell _ _ _ _ (fun e => hvn (by rw [hg', e]))
end HeldP

/-- The same, wherever the row is. -/
def HeldI (b n cap bm mm L B H N : Nat) (r : Nat) (s : Hs) (G : Nat → Prop) (w : World) : Prop := ∃ vf, HeldP b n cap bm mm L B H N r s.1 s.2 vf G w

theorem ownsMap_blkC {w w' : World} {mm n : Nat} {D : DataW Unit} (h : w.ownsMap Try.prog 3 (plainElem Try.prog 3) mm n D) (e : w'.heap[mm]? = w.heap[mm]?) : w'.ownsMap Try.prog 3 (plainElem Try.prog 3) mm n D := by
  obtain ⟨es, clock, hb0, r⟩ := h
  exact ⟨es, clock, by rw [e]; exact hb0, r⟩
theorem counted_row {w w' : World} {H N mm : Nat} {vf : Value} {h : List Int} (h0 : w.cell? ⟨H, 0, none⟩ = some vf) (hz : w.frozen? ⟨H, 0, none⟩ = false) (own : w.ownsRow N 3 1 vf h.length (vals h)) (hg : w.grownBy w' (some mm)) (hHm : H ≠ mm) (hmN : mm < N) :
    w'.cell? ⟨H, 0, none⟩ = some vf ∧ w'.frozen? ⟨H, 0, none⟩ = false ∧ w'.ownsRow N 3 1 vf h.length (vals h) := by
  have e := hg.block H (World.block_lt_of_cell? _ _ h0) (fun e => hHm (Option.some.inj e))
  exact ⟨(World.cell?_of_block (a := ⟨H, 0, none⟩) e).trans h0, (World.frozen?_of_block (a := ⟨H, 0, none⟩) e).trans hz, own_same own fun g hg' => hg.block g (own.lt g hg').2 (fun e => by have := (own.lt g hg').1; have e' := Option.some.inj e; omega)⟩

set_option maxHeartbeats 4000000 in
set_option maxRecDepth 20000 in
theorem give_any {b n cap bm mm L B H N r : Nat} {s : Hs} {G : Nat → Prop} {w : World} (o : Int) (h : HeldI b n cap bm mm L B H N (r + 1) s G w) (hwo : (Lit.int .i64 o).wf = true) :
    Calls Try.prog 51 #[.int .i64 o, .pointer (some ⟨B, 0, none⟩), .pointer (some ⟨H, 0, none⟩)] w fun e w' => e = .returned (.tuple #[]) ∧ HeldI b n cap bm mm L B H N r (giveH s o) G w' ∧ KeptC G w w' ∧ Below L w w' := by
  obtain ⟨vf, x⟩ := h
  obtain ⟨c, hs⟩ := s
  have x : HeldP b n cap bm mm L B H N (r + 1) c hs vf G w := x
  obtain ⟨T, ⟨m, D, hD, hm, ha⟩, hc, hT⟩ := x.tal.map
  have b2 := x.tal.b2
  have hbl := x.tal.lt
  have hHl := x.hlt
  have h0 := x.h0
  have hao := ha o
  have hco := hc o
  have hfw := x.few
  have hw1 := wrap_id (x := c o + 1) (by omega) (by omega)
  have hwx : (Lit.int .i64 (c o + 1)).wf = true := by go_wf
  have hNs := x.ho.2.2.2.2.2.2
  obtain ⟨_, _, hHm, hHB, hmN, _, _⟩ := x.ho
  have HA : Hid (∀ o : Int, D.atKey (.int .i64 o) (.lit (.int .i64 0)) = .lit (.int .i64 (c o))) := ha
  have HC : Hid (∀ o, -(T : Int) ≤ c o ∧ c o ≤ (T : Int)) := hc
  obtain ⟨ad, cf, hvf⟩ := own_form x.own
  subst hvf
  clear ha hc hco
  by_cases hz : c o = 0
  · have HE : Hid (giveH (c, hs) o = (addC 1 c o, hs ++ [o])) := by show giveH (c, hs) o = _; unfold giveH; simp only; rw [if_pos hz]
    have hzb : (c o == 0) = true := by simpa using hz
    have hBH : ¬ B = H := fun e => hHB e.symm
    rw [hz] at hao
    have HZ : Hid (c o = 0) := hz
    have hw9 : (Lit.int .i64 1).wf = true := by decide
    clear hz hzb hw1 hwx
    go_enter Try.func51, Try.ntmps51
    go_wp2_with (first
      | (at_lookup; refine wpList_lookup_own_int _ rfl _ _ 44 rfl 3 3 .i64 key3 ty59 ty3 (zero3 _) mm m D rfl hD5 _ _ rfl (keyOf_int_mk ty3 hwo) ?_; intro y hat hwc; have hcs : y = 0 := (by rw [hao] at hat; simp at hat; exact hat.symm); subst hcs; clear hat hwc)
      | (at_lookup; refine wpList_lookup_own_int _ rfl _ _ 44 rfl 3 3 .i64 key3 ty59 ty3 (zero3 _) mm m D rfl hD _ _ rfl (keyOf_int_mk ty3 hwo) ?_; intro y hat hwc; have hcs : y = 0 := (by rw [hao] at hat; simp at hat; exact hat.symm); subst hcs; clear hat hwc)
      | (at_builtin; refine wpList_append_where rfl (.tmp 9) (.tmp 11) rfl N hs.length 1 _ (.int .i64 o) (vals hs) rfl (x.own.alloc _) ⟨w.heap.size, 0, none⟩ rfl (cell_one_new _ _ _) rfl (by omega) (by simp; omega) ?_; intro v' w4 hown4 hg4 hw4; obtain ⟨g5, c5, hv5⟩ := own_slice hown4; subst hv5; obtain ⟨tal5, cH5, zH5, own5, nh5, ng5, hK5, hB5, cH4, zH4, cB4, hHs4, hBs4, eM5⟩ := x.rowed hown4 hg4 hw4; have hD5 := ownsMap_blkC hD eM5)
      | (at_mapUpdate; refine wpList_mapUpdate_own _ rfl _ _ _ 44 rfl 3 3 key3 ty59 (plainElem Try.prog 3) mm m D rfl hD5 (by unfold maxLen; omega) _ _ _ rfl rfl (keyOf_int_mk ty3 hwo) _ [] (plainElem_int ty3 hw9) ?_; intro w7 hm7 hg7))
    obtain ⟨tal7, hK7, hB7⟩ := tal5.put (r' := r) (CMap.put (c := c) (d := 1) hD5 hm HA.out (by rw [HZ.out]; exact hm7)) hg7 (addC_few HC.out (by decide)) (by omega)
    obtain ⟨r1, r2, r3⟩ := counted_row cH5 zH5 own5 hg7 hHm hmN
    go_end0
    rw [HE.out]
    exact ⟨rfl, ⟨_, tal7, r1, r2, r3, by simp; omega, ⟨x.ho.1, x.ho.2.1, hHm, hHB, hmN, x.ho.2.2.2.2.2.1, Nat.le_trans hNs (by have := hB5.size; have := hB7.size; omega)⟩, nh5, fun k hk => ⟨(x.nG k hk).1, ng5 k hk⟩⟩, hK5.trans hK7, hB5.trans hB7⟩
  · have HE : Hid (giveH (c, hs) o = (addC 1 c o, hs)) := by show giveH (c, hs) o = _; unfold giveH; simp only; rw [if_neg hz]
    have hzb : (c o == 0) = false := by simpa using hz
    generalize hX : c o = X at *
    go_enter Try.func51, Try.ntmps51
    go_wp2_with (first
      | (at_lookup; refine wpList_lookup_own_int _ rfl _ _ 44 rfl 3 3 .i64 key3 ty59 ty3 (zero3 _) mm m D rfl hD _ _ rfl (keyOf_int_mk ty3 hwo) ?_; intro y hat hwc; have hcs : X = y := (by rw [hao] at hat; simp at hat; exact hat); subst hcs; clear hat hwc)
      | (at_mapUpdate; refine wpList_mapUpdate_own _ rfl _ _ _ 44 rfl 3 3 key3 ty59 (plainElem Try.prog 3) mm m D rfl hD (by unfold maxLen; omega) _ _ _ rfl rfl (keyOf_int_mk ty3 hwo) _ [] (plainElem_int ty3 hwx) ?_; intro w7 hm7 hg7))
    obtain ⟨tal7, hK7, hB7⟩ := x.tal.put (r' := r) (CMap.put (c := c) (d := 1) hD hm HA.out (by rw [hX]; exact hm7)) hg7 (addC_few HC.out (by decide)) (by omega)
    obtain ⟨r1, r2, r3⟩ := counted_row x.h0 x.hz x.own hg7 hHm hmN
    go_end0
    rw [HE.out]
    exact ⟨rfl, ⟨_, tal7, r1, r2, r3, by simp only; omega, ⟨x.ho.1, x.ho.2.1, hHm, hHB, hmN, x.ho.2.2.2.2.2.1, Nat.le_trans hNs (by have := hB7.size; omega)⟩, x.nh, x.nG⟩, hK7, hB7⟩
theorem give_enters (args : Array Value) (w : World) : Sem.run Try.prog (callFunc 51 args) w = .ok (.enter 51 args) w := by kernel_rfl
theorem give_does (b n cap bm mm L B H N : Nat) : Does 51 #[.pointer (some ⟨B, 0, none⟩), .pointer (some ⟨H, 0, none⟩)] giveH L (HeldI b n cap bm mm L B H N) :=
  ⟨give_enters, fun ⟨vf, h⟩ hr => ⟨vf, h.less hr⟩, fun _ ⟨vf, h⟩ hb hg => ⟨vf, h.fresh hb hg⟩, fun ⟨_, h⟩ hk => (h.tal.out _ hk).2, fun ⟨_, h⟩ => h.tal.low, fun o h hw => give_any o h hw⟩
end Go.Proofs.Ythdhaokjibfjdaa
