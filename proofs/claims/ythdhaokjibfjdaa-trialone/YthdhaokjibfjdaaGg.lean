/- Several texts in one. -/
import Derived.Test.YthdhaokjibfjdaaGe
import Derived.Test.YthdhaokjibfjdaaRef18fX
/- Package tri: paint. -/
namespace Go.Proofs.Ythdhaokjibfjdaa
open Go.RowKit
open Go.Maps (Keyed keyOf_int_mk)

theorem map_not_row {w : World} {mm T n : Nat} {F : Int → Option Int} {B : Nat} {v : Value} {xs : List Value} (hm : IntMap w mm T F) (h : w.ownsRow B 3 1 v n xs) : ∀ g, v.ownBlock = some g → g ≠ mm := fun g hg e => by
  obtain ⟨k, D, ⟨es, clock, hb0, _⟩, _⟩ := hm
  rcases h.2 with ⟨rfl, _⟩ | ⟨g', cap, cur, rfl, _, hh, _⟩
  · cases hg
  · simp only [Value.ownBlock, Option.some.injEq] at hg
    subst hg; subst e
    rw [hb0] at hh; cases hh
theorem pt_new {w0 wq : World} {L b cap bm mm : Nat} {rv : Value} {W R : List Int} (hv : IsView w0 b cap bm W) (hb : Below w0.heap.size w0 wq) (hlb : L ≤ b) (hlm : L ≤ bm) (hne : b ≠ bm) (hown : wq.ownsRow w0.heap.size 3 1 rv R.length (vals R)) (hm : IntMap wq mm 0 (fun _ => none)) (hmm : w0.heap.size ≤ mm) (hL : L ≤ w0.heap.size) :
    Pt (wq.alloc (.cells #[sl b W.length cap, .map (some bm), rv, .map (some mm)] 67)) L wq.heap.size b cap bm mm 0 rv W R (fun _ => none) := by
  have hs := hb.size
  have h1 := hv.lt
  have h2 := hv.begun.lt
  have h3 := hm.lt
  refine ⟨by simp, by simp, by simp, by simp, fun j => frozen_at2 (by simp), (hv.same hb).alloc _, own_mono hL (hown.alloc _), hm.below ((Below.refl _ _).alloc (Nat.le_refl _) _) h3, ⟨by omega, by omega, by omega, by omega⟩, ⟨by omega, by omega, by omega, hne, by omega, by omega⟩, fun g hg => ?_⟩
  obtain ⟨l1, l2⟩ := hown.lt g hg
  exact ⟨by omega, by omega, by omega, map_not_row hm hown g hg⟩
theorem intmap_through {w w' : World} (hb : Below (w.alloc (.map #[] 0)).heap.size (w.alloc (.map #[] 0)) w') : IntMap w' w.heap.size 0 (fun _ => none) := (IntMap.new w).below hb (by simp)

/-- What paint answers. -/
def PaintAns (W R : List Int) (L b cap bm : Nat) (w : World) (e : Ending) (w' : World) : Prop :=
  ∃ Q mm rv, e = .returned (.pointer (some ⟨Q, 0, none⟩)) ∧ Pt w' L Q b cap bm mm (2000 + R.length) rv W R (colF W (shadeL (List.replicate (W.length + 1) 0) R)) ∧ Below L w w'

set_option maxRecDepth 20000 in
set_option maxHeartbeats 8000000 in
theorem tpaint_any (W R : List Int) (L b cap bm : Nat) (rad : Option Addr) (rc : Nat) (w : World) (hv : IsView w b cap bm W) (hlb : L ≤ b) (hlm : L ≤ bm) (hne : b ≠ bm) (hL : L ≤ w.heap.size) (hr : RootsAt rad R w) (hu : unfit W 2 = none) (hl : W.length ≤ 2000) (hR : R.length ≤ 50000) :
    Calls Try.prog 17 #[viewV b W.length cap bm, .slice rad R.length rc] w (PaintAns W R L b cap bm w) := by
  have hmm := @run_makeMap Try.prog
  have hpf := tplaces_few hl
  obtain ⟨w2, hw2⟩ : ∃ w2, w2 = w.alloc (.cells #[sl b W.length cap, .map (some bm)] 46) := ⟨_, rfl⟩
  have hb2 : Below w.heap.size w w2 := by rw [hw2]; exact (Below.refl _ _).alloc (Nat.le_refl _) _
  have v0 : w2.cell? ⟨w.heap.size, 0, none⟩ = some (sl b W.length cap) := by rw [hw2]; simp
  have v1 : w2.cell? ⟨w.heap.size, 1, none⟩ = some (.map (some bm)) := by rw [hw2]; simp
  have hz2 : w.heap.size < w2.heap.size := by rw [hw2]; simp
  have HV : Hid (IsView w2 b cap bm W) := hv.same hb2
  have HR : Hid (RootsAt rad R w2) := hr.below hb2
  have HCl : Hid (∀ w0, Below w2.heap.size w2 w0 → Calls Try.prog 33 #[.slice rad R.length rc] w0 fun e w' => OwnedAny w0.heap.size R e w' ∧ Below w0.heap.size w0 w') :=
    fun w0 hb => clone_own R rad rc w0 (HR.out.below hb) (by omega)
  have hL2 : L ≤ w2.heap.size := by omega
  clear hv hr
  go_enter Try.func17, Try.ntmps17
  go_upto_region 1 with fail
  rw [← hw2]
  clear hw2
  go_cut [5] from 8 to 13 (fun s5 wx => ∃ Q mm rv, s5 = .pointer (some ⟨Q, 0, none⟩) ∧ Hid (Pt wx L Q b cap bm mm 0 rv W R (fun _ => none)) ∧ Hid (w2.heap.size ≤ mm) ∧ Below w2.heap.size w2 wx)
  case first =>
    go_region_held3 (fun w' => w'.cell? ⟨w.heap.size, 0, none⟩ = some (sl b W.length cap) ∧ w'.cell? ⟨w.heap.size, 1, none⟩ = some (.map (some bm))) (go_keep) (first | (go_at_call 33; refine (HCl.out _ (by first | exact (Below.refl _ _).drew | exact ((Below.refl _ _).alloc (Nat.le_refl _) _).drew)).mono ?_; rintro e w3 ⟨⟨ca, cc, rfl, hown3⟩, hb3⟩; have hb23 : Below w2.heap.size w2 w3 := (by first | exact (Below.refl _ _).drew.trans (hb3.mono (by simp)) | exact ((Below.refl _ _).alloc (Nat.le_refl _) _).drew.trans (hb3.mono (by simp))); have u0 := through hb23 v0 hz2; have u1 := through hb23 v1 hz2; have u2 : w.heap.size < w3.heap.size := (Nat.lt_of_lt_of_le hz2 hb23.size)))
    · go_wp2_with fail
      go_meet
      case rel =>
        have hA : Below w2.heap.size w2 (w3.alloc (.map #[] 0)) := hb23.alloc hb23.size _
        have hp := pt_new (L := L) (R := R) (rv := .slice ca R.length cc) HV.out hA hlb hlm hne (own_mono (by simp) (hown3.alloc _)) (IntMap.new w3) hb23.size hL2
        rw [World.size_alloc] at hp
        exact ⟨_, _, _, rfl, hp, hb23.size, hA.alloc hA.size _⟩
    all_goals
      go_wp2_with fail
      go_meet
      case rel =>
        have hx : Below (w2.alloc (.map #[] 0)).heap.size (w2.alloc (.map #[] 0)) w3 := (Below.refl _ _).drew.trans (hb3.mono (by simp))
        have hm : IntMap w3 w2.heap.size 0 (fun _ => none) := (IntMap.new w2).below hx (by simp)
        exact ⟨_, _, _, rfl, pt_new (L := L) (R := R) (rv := .slice ca R.length cc) HV.out hb23 hlb hlm hne (own_mono (by simp) hown3) hm (Nat.le_refl _) hL2, Nat.le_refl _, hb23.alloc hb23.size _⟩
  case rest =>
    obtain ⟨Q, mm, rv, rfl, HP, HM, hb2c⟩ := hcut
    have y0 := through hb2c v0 hz2
    have y1 := through hb2c v1 hz2
    have hzc : w.heap.size < wc.heap.size := Nat.lt_of_lt_of_le hz2 hb2c.size
    have hbc : Below w.heap.size w wc := hb2.trans (hb2c.mono hb2.size)
    go_wp2_with (first | (go_at_call 26; refine (things_any W b cap bm _ HP.out.view hu hl).mono ?_; rintro e w4 ⟨⟨tad, tc, rfl, hown4⟩, hb4⟩))
    have HP4 : Hid (Pt w4 L Q b cap bm mm 0 rv W R (whiteF [])) := by rw [white_nil]; exact HP.out.same hb4
    have HO : Hid (w4.ownsRow wc.heap.size 3 1 (.slice tad (refs (places W 2)).length tc) (refs (places W 2)).length (vals (refs (places W 2)))) := hown4
    have HL : Hid ((refs (places W 2)).length = (places W 2).length) := refs_length _
    have hb24 : Below w2.heap.size w2 w4 := hb2c.trans (hb4.mono hb2c.size)
    have hmc := HP.out.map.lt
    clear hown4 y0 y1 v0 v1
    go_loopw [17] (fun s wr => ∃ (i : Nat), s = .int .i64 i ∧ i ≤ (refs (places W 2)).length ∧ Pt wr L Q b cap bm mm i rv W R (whiteF ((places W 2).take i)) ∧ Below w2.heap.size w2 wr ∧ Hid (wr.ownsRow wc.heap.size 3 1 (.slice tad (refs (places W 2)).length tc) (refs (places W 2)).length (vals (refs (places W 2))))) (fun s _ => (refs (places W 2)).length - (intOf s).toNat)
    case atStart => exact ⟨0, rfl, Nat.zero_le _, HP4.out, hb24, HO.out⟩
    case round =>
      obtain ⟨i, rfl, hi, hP, hB, HOr⟩ := hrel
      by_cases hlt : i < (refs (places W 2)).length
      · have hii : (i : Int) < ((refs (places W 2)).length : Int) := by omega
        have hi2 : i < (places W 2).length := by have := HL.out; omega
        obtain ⟨g, cg, hsh, hge, hown0⟩ := own_shape HOr.out (fun e => by injection e with _ h1 _; omega)
        simp only [Value.slice.injEq, true_and] at hsh
        obtain ⟨rfl, rfl⟩ := hsh
        have hcl := own_cell hown0 hlt
        have hgl := own_lt hown0
        have hmem : (places W 2)[i] ∈ places W 2 := List.getElem_mem hi2
        have hwdi : wd (refs (places W 2)) i = 2 * ((places W 2)[i] : Int) := by
          unfold wd refs; rw [List.getD_eq_getElem?_getD, List.getElem?_map, List.getElem?_eq_getElem hi2]; rfl
        have hpg := (place_ge hmem).2
        rw [hwdi] at hcl
        have hq3 := hP.q3
        have hql := hP.lt
        obtain ⟨n, D, hD, hDn, hDh, hDa⟩ := hP.map
        have Hw : Hid ((fun k => if k = 2 * ((places W 2)[i] : Int) then some 0 else whiteF ((places W 2).take i) k) = whiteF ((places W 2).take (i + 1))) := by rw [List.take_succ_eq_append_getElem hi2]; exact white_snoc _ _
        clear hwdi hmem
        generalize (places W 2)[i] = p at *
        have hwf : (Lit.int .i64 (2 * (p : Int))).wf = true := by go_wf
        have hw0 : (Lit.int .i64 0).wf = true := by decide
        go_wp2_with (first | (at_mapUpdate; refine wpList_mapUpdate_own _ rfl _ _ _ 44 rfl 3 3 key3 ty59 (plainElem Try.prog 3) mm n D rfl hD (by unfold maxLen; omega) _ _ _ rfl rfl (keyOf_int_mk ty3 hwf) _ [] (plainElem_int ty3 hw0) ?_; intro w7 hm7 hg7))
        have hput := IntMap.put hD hDn hDh hDa hm7
        rw [Hw.out] at hput
        have hP7 := (hP.mapped hput hg7).1
        have hb7 : Below w2.heap.size w2 w7 := hB.grown hg7 hB.size (fun k hk => by injection hk with hk; have := HM.out; omega)
        have HO7 : Hid (w7.ownsRow wc.heap.size 3 1 (sl g (refs (places W 2)).length tc) (refs (places W 2)).length (vals (refs (places W 2)))) := own_same HOr.out fun k hk => hg7.block k (HOr.out.lt k hk).2 (fun e => by have := (HOr.out.lt k hk).1; injection e with e; omega)
        go_roundw
        case rel => exact ⟨i + 1, by first | rfl | simp, by omega, hP7, hb7, HO7⟩
        case measure => simp [intOf]; omega
      · have hii : ¬ (i : Int) < ((refs (places W 2)).length : Int) := by omega
        have hp5 : Pt wr L Q b cap bm mm 2000 rv W R (colF W (List.replicate (W.length + 1) 0)) := by
          have h := hP
          rw [List.take_of_length_le (by have := HL.out; omega), white_all hl (W.length + 1)] at h
          exact h.up (by have := HL.out; omega)
        have HR5 : Hid (0 < R.length → ∃ rb ro, rad = some ⟨rb, ro, none⟩ ∧ Row wr rb ro R ∧ rb ≠ mm) := fun h0 => by
          obtain ⟨rb, ro, e, hrow⟩ := HR.out h0
          have hrl := hrow.lt
          exact ⟨rb, ro, e, hrow.same hB, by have := HM.out; omega⟩
        go_wp2_with (first | (go_at_call 34; refine (tshade_any L Q b cap bm mm 2000 rv W R (List.replicate (W.length + 1) 0) R rad rc _ hp5 List.length_replicate HR5.out (by omega)).mono ?_; rintro e w6 ⟨rfl, hP6, hB6⟩))
        go_ret
        exact ⟨Q, mm, rv, rfl, hP6, ((hb2.mono hL).trans (hB.mono hL2)).trans hB6⟩
end Go.Proofs.Ythdhaokjibfjdaa

/- Package tri: (*painter).told. -/
namespace Go.Proofs.Ythdhaokjibfjdaa
open Go.RowKit
open Go.Maps (Keyed keyOf_int_mk)

/-- What View.Heap answers. -/
def CopyAns (W : List Int) (B : Nat) (e : Ending) (w : World) : Prop := ∃ g c, e = .returned (.agg #[sl g W.length c]) ∧ w.ownsRow B 3 1 (sl g W.length c) W.length (vals W)
theorem boxes21t {w w' : World} {a b c : Value} {t t' : TypeId} (hb : Below ((w.alloc (.cells #[a, b] t)).alloc (.cells #[c] t')).heap.size ((w.alloc (.cells #[a, b] t)).alloc (.cells #[c] t')) w') :
    w'.cell? ⟨w.heap.size + 1, 0, none⟩ = some c ∧ w'.frozen? ⟨w.heap.size + 1, 0, none⟩ = false ∧ w.heap.size + 1 < w'.heap.size ∧ Below w.heap.size w w' := by
  have hs := hb.size
  simp at hs
  have hz : (w.alloc (.cells #[a, b] t)).heap.size = w.heap.size + 1 := by simp
  have g0 : w'.cell? ⟨(w.alloc (.cells #[a, b] t)).heap.size, 0, none⟩ = some c := by rw [hb.cell (p := ⟨(w.alloc (.cells #[a, b] t)).heap.size, 0, none⟩) (by simp)]; simp
  have g1 : w'.frozen? ⟨(w.alloc (.cells #[a, b] t)).heap.size, 0, none⟩ = false := by rw [hb.frozen (p := ⟨(w.alloc (.cells #[a, b] t)).heap.size, 0, none⟩) (by simp)]; exact frozen_at2 (by simp)
  rw [hz] at g0 g1
  exact ⟨g0, g1, by omega, (((Below.refl _ _).alloc (Nat.le_refl _) _).alloc (by simp) _).trans (hb.mono (by simp; omega))⟩
set_option maxRecDepth 20000 in
set_option maxHeartbeats 2000000 in
theorem vheap_any (W : List Int) (b cap bm : Nat) (w : World) (hv : IsView w b cap bm W) (h2 : 0 < W.length) (hl : W.length ≤ 2000) :
    Calls Try.prog 39 #[viewV b W.length cap bm] w fun e w' => CopyAns W w.heap.size e w' ∧ Below w.heap.size w w' := by
  have hb := hv.lt
  have HR : Hid (RootsAt (some ⟨b, 0, none⟩) W w) := fun _ => ⟨b, 0, rfl, hv.row⟩
  go_enter Try.func39, Try.ntmps39
  go_wp2_with (first | (go_at_call 33; refine (clone_own W (some ⟨b, 0, none⟩) cap _ (HR.out.below (((Below.refl _ _).alloc (Nat.le_refl _) _).alloc (by simp) _)) (by omega)).mono ?_; rintro e w1 ⟨⟨ca, cc, rfl, hown1⟩, hb1⟩; obtain ⟨r0, r1, hz1, hb01⟩ := boxes21t hb1; obtain ⟨g, cg, hsh, hge, hown0⟩ := own_shape hown1 (fun e => by injection e with _ h1 _; omega); simp only [Value.slice.injEq, true_and] at hsh; obtain ⟨rfl, rfl⟩ := hsh))
  refine bodyPost_ret (v := .agg #[sl g W.length cc]) (by simp [results, Try.results39, go_sem, r0]) rfl ⟨⟨g, cc, rfl, ?_⟩, hb01.setCell (by dsimp only; omega) _⟩
  exact ownsRow_setCell_other (own_mono (by simp; omega) hown1) (fun e => by simp [Value.ownBlock] at e; simp at hge; omega) _

/-- What told builds: the box X, and in it rows of the painter's; since wt nothing else has changed. -/
structure PlX (w wt : World) (X : Nat) (v0 v1 : Value) (CL : List Int) (d : Bool) (vC vF : Value) : Prop where
  box : w.heap[X]? = some (.cells #[v0, v1, vC, .bool d, vF] 30 (0, 0))
  cs : w.ownsRow wt.heap.size 3 1 vC CL.length (vals CL)
  xl : X < wt.heap.size
  kept : Kept3 X X X wt w
namespace PlX
variable {w w' wt : World} {X : Nat} {v0 v1 vC vF : Value} {CL : List Int} {d : Bool}
theorem lt (h : PlX w wt X v0 v1 CL d vC vF) : X < w.heap.size := (Array.getElem?_eq_some_iff.1 h.box).1
theorem cells (h : PlX w wt X v0 v1 CL d vC vF) : (w.cell? ⟨X, 0, none⟩ = some v0 ∧ w.cell? ⟨X, 1, none⟩ = some v1 ∧ w.cell? ⟨X, 2, none⟩ = some vC ∧ w.cell? ⟨X, 3, none⟩ = some (.bool d) ∧ w.cell? ⟨X, 4, none⟩ = some vF) ∧ ∀ k, w.frozen? ⟨X, k, none⟩ = false :=
  ⟨⟨cell_of_row _ _ _ _ _ _ h.box, cell_of_row _ _ _ _ _ _ h.box, cell_of_row _ _ _ _ _ _ h.box, cell_of_row _ _ _ _ _ _ h.box, cell_of_row _ _ _ _ _ _ h.box⟩, fun _ => frozen_of_row _ _ _ _ _ h.box⟩
theorem off (h : PlX w wt X v0 v1 CL d vC vF) : vC.ownBlock ≠ some X := fun e => by have := (h.cs.lt _ e).1; have := h.xl; omega
theorem same (h : PlX w wt X v0 v1 CL d vC vF) (hb : Below w.heap.size w w') : PlX w' wt X v0 v1 CL d vC vF :=
  ⟨(hb.block X h.lt).trans h.box, own_same h.cs fun g hg => hb.block g (h.cs.lt g hg).2, h.xl, h.kept.trans (Kept3.of_below hb)⟩
theorem setD (h : PlX w wt X v0 v1 CL d vC vF) (d' : Bool) : PlX (w.setCell ⟨X, 3, none⟩ (.bool d')) wt X v0 v1 CL d' vC vF :=
  ⟨heap_setCell_same _ _ _ _ _ _ h.box, ownsRow_setCell_other h.cs (a := ⟨X, 3, none⟩) h.off _, h.xl, h.kept.trans (Kept3.set _ _ _ (Or.inl rfl))⟩
theorem setF (h : PlX w wt X v0 v1 CL d vC vF) (vF' : Value) : PlX (w.setCell ⟨X, 4, none⟩ vF') wt X v0 v1 CL d vC vF' :=
  ⟨heap_setCell_same _ _ _ _ _ _ h.box, ownsRow_setCell_other h.cs (a := ⟨X, 4, none⟩) h.off _, h.xl, h.kept.trans (Kept3.set _ _ _ (Or.inl rfl))⟩
theorem growC {w2 : World} {o : Obj} {x : Int} {g c : Nat} (h : PlX w wt X v0 v1 CL d vC vF) (hown : w2.ownsRow wt.heap.size 3 1 (sl g (CL.length + 1) c) (CL.length + 1) (vals (CL ++ [x]))) (hgrow : (w.alloc o).grownBy w2 vC.ownBlock) :
    PlX (w2.setCell ⟨X, 2, none⟩ (sl g (CL.length + 1) c)) wt X v0 v1 (CL ++ [x]) d (sl g (CL.length + 1) c) vF := by
  have hk : ∀ k, k < w.heap.size → vC.ownBlock ≠ some k → w2.heap[k]? = w.heap[k]? := fun k hk hn => (hgrow.block k (by simp; omega) (fun e => hn e.symm)).trans (Below.heap_alloc _ _ _ hk)
  have hl : (CL ++ [x]).length = CL.length + 1 := by simp
  have hgX := (hown.lt g rfl).1
  have hX := h.xl
  have hks := h.kept.size
  refine ⟨heap_setCell_same _ _ _ _ _ _ ((hk _ h.lt h.off).trans h.box), ?_, hX, ?_⟩
  · rw [hl]; exact ownsRow_setCell_other hown (a := ⟨X, 2, none⟩) (fun e => by have e' : g = X := (by injection e); omega) _
  · refine Kept3.trans ?_ (Kept3.set _ _ _ (Or.inl rfl))
    refine ⟨((h.kept.1.alloc (Nat.zero_le _) o).grown hgrow (Nat.zero_le _) (fun _ _ => Nat.zero_le _)), fun k hk1 hk2 _ _ => ?_⟩
    exact (hk k (by omega) (fun e => by have := (h.cs.lt k e).1; omega)).trans (h.kept.2 k hk1 hk2 hk2 hk2)
end PlX
end Go.Proofs.Ythdhaokjibfjdaa

/- Package tri: (*painter).told, its walk. -/
namespace Go.Proofs.Ythdhaokjibfjdaa
open Go.RowKit
open Go.Maps (Keyed keyOf_int_mk)

/-- A box of five cells. -/
def Bx (w : World) (X : Nat) (a b c d e : Value) : Prop := w.heap[X]? = some (.cells #[a, b, c, d, e] 30 (0, 0))
theorem Bx.new (w : World) (a b c d e : Value) : Bx (w.alloc (.cells #[a, b, c, d, e] 30)) w.heap.size a b c d e := heap_alloc_new w _
theorem Bx.lt {w : World} {X : Nat} {a b c d e : Value} (h : Bx w X a b c d e) : X < w.heap.size := (Array.getElem?_eq_some_iff.1 h).1
theorem Bx.same {w w' : World} {X : Nat} {a b c d e : Value} (h : Bx w X a b c d e) (hb : Below w.heap.size w w') : Bx w' X a b c d e := (hb.block X h.lt).trans h
theorem Bx.cells {w : World} {X : Nat} {a b c d e : Value} (h : Bx w X a b c d e) : (w.cell? ⟨X, 0, none⟩ = some a ∧ w.cell? ⟨X, 1, none⟩ = some b ∧ w.cell? ⟨X, 2, none⟩ = some c ∧ w.cell? ⟨X, 3, none⟩ = some d ∧ w.cell? ⟨X, 4, none⟩ = some e) ∧ ∀ k, w.frozen? ⟨X, k, none⟩ = false :=
  ⟨⟨cell_of_row _ _ _ _ _ _ h, cell_of_row _ _ _ _ _ _ h, cell_of_row _ _ _ _ _ _ h, cell_of_row _ _ _ _ _ _ h, cell_of_row _ _ _ _ _ _ h⟩, fun _ => frozen_of_row _ _ _ _ _ h⟩
theorem bx1 {w w' : World} {a b c d e : Value} (hb : Below (w.alloc (.cells #[a, b, c, d, e] 30)).drew.heap.size (w.alloc (.cells #[a, b, c, d, e] 30)).drew w') : Bx w' w.heap.size a b c d e := ((Bx.new w a b c d e).same (Below.refl _ _).drew).same hb
theorem bx2 {w w' : World} {a b c d e : Value} (hb : Below (w.alloc (.cells #[a, b, c, d, e] 30)).heap.size (w.alloc (.cells #[a, b, c, d, e] 30)) w') : Bx w' w.heap.size a b c d e := (Bx.new w a b c d e).same hb
theorem Bx.put {w : World} {X : Nat} {a b c d e : Value} (h : Bx w X a b c d e) (a' b' c' d' e' : Value) : Bx (((((w.setCell ⟨X, 0, none⟩ a').setCell ⟨X, 1, none⟩ b').setCell ⟨X, 2, none⟩ c').setCell ⟨X, 3, none⟩ d').setCell ⟨X, 4, none⟩ e') X a' b' c' d' e' := by
  have h0 : Bx (w.setCell ⟨X, 0, none⟩ a') X a' b c d e := heap_setCell_same _ _ _ _ _ _ h
  have h1 : Bx ((w.setCell ⟨X, 0, none⟩ a').setCell ⟨X, 1, none⟩ b') X a' b' c d e := heap_setCell_same _ _ _ _ _ _ h0
  have h2 : Bx (((w.setCell ⟨X, 0, none⟩ a').setCell ⟨X, 1, none⟩ b').setCell ⟨X, 2, none⟩ c') X a' b' c' d e := heap_setCell_same _ _ _ _ _ _ h1
  have h3 : Bx ((((w.setCell ⟨X, 0, none⟩ a').setCell ⟨X, 1, none⟩ b').setCell ⟨X, 2, none⟩ c').setCell ⟨X, 3, none⟩ d') X a' b' c' d' e := heap_setCell_same _ _ _ _ _ _ h2
  exact heap_setCell_same _ _ _ _ _ _ h3

theorem plx_first {w : World} {X : Nat} {v0 v1 : Value} (h : Bx w X v0 v1 (.slice none 0 0) (.bool false) (.slice none 0 0)) : PlX w w X v0 v1 [] false (.slice none 0 0) (.slice none 0 0) := ⟨h, World.ownsRow_nil _ _ _ _, h.lt, Kept3.of_below (Below.refl _ _)⟩
theorem reads_ownT {w : World} {B c : Nat} {ad : Option Addr} {xs : List Int} (h : w.ownsRow B 3 1 (.slice ad xs.length c) xs.length (vals xs)) : Reads w (.slice ad xs.length c) xs := by
  refine ⟨ad, c, rfl, fun h0 => ?_⟩
  obtain ⟨g, cg, hsh, hge, hown0⟩ := own_shape h (fun e => by injection e with _ h1 _; omega)
  simp only [Value.slice.injEq, true_and] at hsh
  obtain ⟨rfl, rfl⟩ := hsh
  exact ⟨g, 0, rfl, own_lt hown0, fun k hk => by rw [Nat.zero_add]; exact own_cell hown0 hk⟩
theorem own_set5 {w : World} {B n X : Nat} {v a b c d e : Value} {xs : List Value} (h : w.ownsRow B 3 1 v n xs) (hX : v.ownBlock ≠ some X) : (((((w.setCell ⟨X, 0, none⟩ a).setCell ⟨X, 1, none⟩ b).setCell ⟨X, 2, none⟩ c).setCell ⟨X, 3, none⟩ d).setCell ⟨X, 4, none⟩ e).ownsRow B 3 1 v n xs :=
  own_same h fun g hg => set5 (fun e => hX (by rw [← e]; exact hg))
theorem below_set5 {w w' : World} {B X : Nat} {a b c d e : Value} (h : Below B w w') (hX : B ≤ X) : Below B w (((((w'.setCell ⟨X, 0, none⟩ a).setCell ⟨X, 1, none⟩ b).setCell ⟨X, 2, none⟩ c).setCell ⟨X, 3, none⟩ d).setCell ⟨X, 4, none⟩ e) :=
  ((((h.setCell (p := ⟨X, 0, none⟩) hX _).setCell (p := ⟨X, 1, none⟩) hX _).setCell (p := ⟨X, 2, none⟩) hX _).setCell (p := ⟨X, 3, none⟩) hX _).setCell (p := ⟨X, 4, none⟩) hX _

/-- What told answers, in memory of its own. -/
structure TellAns (w : World) (B : Nat) (s : Tri) (v0 v1 v2 v4 : Value) : Prop where
  words : w.ownsRow B 3 1 v0 s.W.length (vals s.W)
  roots : w.ownsRow B 3 1 v1 s.R.length (vals s.R)
  cols : w.ownsRow B 3 1 v2 (coloursT s).length (vals (coloursT s))
  freed : w.ownsRow B 3 1 v4 (freedT s).length (vals (freedT s))
theorem TellAns.forms {w : World} {B : Nat} {s : Tri} {v0 v1 v2 v4 : Value} (h : TellAns w B s v0 v1 v2 v4) : ∃ a0 c0 a1 c1 a2 c2 a4 c4, v0 = .slice a0 s.W.length c0 ∧ v1 = .slice a1 s.R.length c1 ∧ v2 = .slice a2 (coloursT s).length c2 ∧ v4 = .slice a4 (freedT s).length c4 := by
  obtain ⟨a0, c0, e0⟩ := own_form h.words
  obtain ⟨a1, c1, e1⟩ := own_form h.roots
  obtain ⟨a2, c2, e2⟩ := own_form h.cols
  obtain ⟨a4, c4, e4⟩ := own_form h.freed
  exact ⟨a0, c0, a1, c1, a2, c2, a4, c4, e0, e1, e2, e4⟩
theorem TellAns.keep {w w' : World} {B : Nat} {s : Tri} {v0 v1 v2 v4 : Value} (h : TellAns w B s v0 v1 v2 v4) (hk : ∀ g, B ≤ g → g < w.heap.size → w'.heap[g]? = w.heap[g]?) : TellAns w' B s v0 v1 v2 v4 :=
  ⟨own_same h.words fun g e => hk g (h.words.lt g e).1 (h.words.lt g e).2, own_same h.roots fun g e => hk g (h.roots.lt g e).1 (h.roots.lt g e).2, own_same h.cols fun g e => hk g (h.cols.lt g e).1 (h.cols.lt g e).2, own_same h.freed fun g e => hk g (h.freed.lt g e).1 (h.freed.lt g e).2⟩
theorem TellAns.reads {w : World} {B : Nat} {s : Tri} {v0 v1 v2 v4 : Value} (h : TellAns w B s v0 v1 v2 v4) : PlayAns' w s v0 v1 v2 v4 := by
  obtain ⟨a0, c0, a1, c1, a2, c2, a4, c4, rfl, rfl, rfl, rfl⟩ := h.forms
  exact ⟨reads_ownT h.words, reads_ownT h.roots, reads_ownT h.cols, reads_ownT h.freed⟩

set_option maxRecDepth 20000 in
set_option maxHeartbeats 8000000 in
theorem ttold_any (L Q b cap bm mm T : Nat) (rv : Value) (W R C : List Int) (w : World) (hP : Pt w L Q b cap bm mm T rv W R (colF W C)) (hc : (checkOf W).1 = 0) (hr : ∀ x ∈ R, okRef W x) (hR : R.length ≤ 50000) :
    Calls Try.prog 19 #[.pointer (some ⟨Q, 0, none⟩)] w fun e w' => (∃ v0 v1 v2 v4, e = .returned (.agg #[v0, v1, v2, .bool (doneT ⟨W, R, C⟩), v4]) ∧ TellAns w' w.heap.size ⟨W, R, C⟩ v0 v1 v2 v4) ∧ Below w.heap.size w w' := by
  have hf := fine_of hc
  have hl : W.length ≤ 2000 := hf.few
  have hu : unfit W 2 = none := hf.fit
  have h2 : 0 < W.length := by have := (front_out (check_fine hc).1).1; omega
  have hpf := tplaces_few hl
  obtain ⟨i0, hi, hz0, hz1, hz2⟩ := info_parts info3
  obtain ⟨ra, rc, rfl, hra⟩ := roots_own hP.roots hr
  obtain ⟨w2, hw2⟩ : ∃ w2, w2 = w.alloc (.cells #[.slice none 0 0, .slice none 0 0, .slice none 0 0, .bool false, .slice none 0 0] 30) := ⟨_, rfl⟩
  have hb2 : Below w.heap.size w w2 := by rw [hw2]; exact (Below.refl _ _).alloc (Nat.le_refl _) _
  have Hres : Hid (Bx w2 w.heap.size (.slice none 0 0) (.slice none 0 0) (.slice none 0 0) (.bool false) (.slice none 0 0)) := by rw [hw2]; exact Bx.new _ _ _ _ _ _
  have hzw : w.heap.size < w2.heap.size := by rw [hw2]; simp
  have hP2 := hP.same hb2
  have HR2 : Hid (RootsAt ra R w2) := hra.below hb2
  have q0 := hP2.q0
  have q1 := hP2.q1
  have q2 := hP2.q2
  have hq := hP2.lt
  have HHp : Hid (∀ w0, Below w2.heap.size w2 w0 → Calls Try.prog 39 #[viewV b W.length cap bm] w0 fun e w' => CopyAns W w0.heap.size e w' ∧ Below w0.heap.size w0 w') := fun w0 hb => vheap_any W b cap bm w0 (hP2.view.same hb) h2 hl
  have HCl : Hid (∀ w0, Below w2.heap.size w2 w0 → Calls Try.prog 33 #[.slice ra R.length rc] w0 fun e w' => OwnedAny w0.heap.size R e w' ∧ Below w0.heap.size w0 w') := fun w0 hb => clone_own R ra rc w0 (HR2.out.below hb) (by omega)
  clear hra hr hP
  go_enter Try.func19, Try.ntmps19
  go_upto_region 1 with fail
  rw [← hw2]
  clear hw2
  go_cut [3] from 6 to 16 (fun s3 wx => ∃ X g0 c0 a1 c1, s3 = .pointer (some ⟨X, 0, none⟩) ∧ Hid (PlX wx wx X (sl g0 W.length c0) (.slice a1 R.length c1) [] false (.slice none 0 0) (.slice none 0 0) ∧ wx.ownsRow w2.heap.size 3 1 (sl g0 W.length c0) W.length (vals W) ∧ wx.ownsRow w2.heap.size 3 1 (.slice a1 R.length c1) R.length (vals R) ∧ w2.heap.size ≤ X) ∧ Below w2.heap.size w2 wx)
  case first =>
    have n1 : ¬ Q = w2.heap.size := by omega
    have n2 : ¬ w2.heap.size = Q := by omega
    go_region_held3 (fun w' => w'.cell? ⟨Q, 0, none⟩ = some (sl b W.length cap) ∧ w'.cell? ⟨Q, 1, none⟩ = some (.map (some bm)) ∧ w'.cell? ⟨Q, 2, none⟩ = some (.slice ra R.length rc)) (go_keep) (first
      | (go_at_call 39; refine (HHp.out _ (by first | exact (Below.refl _ _).drew | exact ((Below.refl _ _).alloc (Nat.le_refl _) _).drew)).mono ?_; rintro e w3 ⟨⟨g3, c3, rfl, hown3⟩, hb3⟩; have hb23 : Below w2.heap.size w2 w3 := (by first | exact (Below.refl _ _).drew.trans (hb3.mono (by simp)) | exact ((Below.refl _ _).alloc (Nat.le_refl _) _).drew.trans (hb3.mono (by simp))); have u0 := through hb23 q0 hq; have u1 := through hb23 q1 hq; have u2 := through hb23 q2 hq; have hq3 : Q < w3.heap.size := (Nat.lt_of_lt_of_le hq hb23.size); have n3 : ¬ Q = w3.heap.size := (by omega); have n4 : ¬ w3.heap.size = Q := (by omega); (try (have q5 := bx1 hb3)))
      | (go_at_call 33; refine (HCl.out _ (by first | exact hb23 | exact hb23.drew | exact (hb23.alloc hb23.size _).drew | exact hb23.alloc hb23.size _)).mono ?_; rintro e w4 ⟨⟨ca, cc, rfl, hown4⟩, hb4⟩; have hb34 : Below w3.heap.size w3 w4 := (by first | exact hb4 | exact (Below.refl _ _).drew.trans (hb4.mono (by simp)) | exact ((Below.refl _ _).alloc (Nat.le_refl _) _).drew.trans (hb4.mono (by simp)) | exact ((Below.refl _ _).alloc (Nat.le_refl _) _).trans (hb4.mono (by simp))); have hb24 := hb23.trans (hb34.mono hb23.size); have t0 := through hb24 q0 hq; have t1 := through hb24 q1 hq; have t2 := through hb24 q2 hq; have hq4 : Q < w4.heap.size := (Nat.lt_of_lt_of_le hq hb24.size); have n5 : ¬ Q = w4.heap.size := (by omega); have n6 : ¬ w4.heap.size = Q := (by omega); (try (have q6 := q5.same hb34; obtain ⟨⟨x0, x1, x2, x3, x4⟩, xf⟩ := q6.cells; have hxl := q6.lt)); (try (have q6 := bx1 hb4; obtain ⟨⟨x0, x1, x2, x3, x4⟩, xf⟩ := q6.cells; have hxl := q6.lt)); (try (have q6 := bx2 hb4; obtain ⟨⟨x0, x1, x2, x3, x4⟩, xf⟩ := q6.cells; have hxl := q6.lt))))
    · go_wp2_with fail
      go_meet
      case rel =>
        have hs24 := hb24.size
        exact ⟨w4.heap.size, g3, c3, ca, cc, rfl, ⟨plx_first (Bx.new _ _ _ _ _ _), (own_same (own_mono (by simp) hown3) fun g hg => hb34.block g (hown3.lt g hg).2).alloc _, own_mono hb23.size (hown4.alloc _), hs24⟩, hb24.alloc hb24.size _⟩
    · go_wp2_with fail
      go_meet
      case rel =>
        have hs23 := hb23.size
        refine ⟨w3.heap.size, g3, c3, ca, cc, rfl, ⟨plx_first (q6.put _ _ _ _ _), own_set5 (own_same (own_mono (by simp) hown3) fun g hg => hb34.block g (hown3.lt g hg).2) ?_, own_set5 (own_mono (by simp; omega) hown4) ?_, hs23⟩, below_set5 hb24 hs23⟩
        · intro e; have := (hown3.lt _ e).2; omega
        · intro e; have := (hown4.lt _ e).1; simp at this; omega
    · go_wp2_with fail
      go_meet
      case rel =>
        have hs23 := hb23.size
        refine ⟨w2.heap.size, g3, c3, ca, cc, rfl, ⟨plx_first (q6.put _ _ _ _ _), own_set5 (own_same (own_mono (by simp) hown3) fun g hg => hb34.block g (hown3.lt g hg).2) ?_, own_set5 (own_mono (by omega) hown4) ?_, Nat.le_refl _⟩, below_set5 hb24 (Nat.le_refl _)⟩
        · intro e; have := (hown3.lt _ e).1; simp at this; omega
        · intro e; have := (hown4.lt _ e).1; have := q5.lt; omega
  case rest =>
    obtain ⟨X, g0, c0, a1, c1, rfl, HX, hb2c⟩ := hcut
    have hPc := hP2.same hb2c
    have y0 := hPc.q0
    have y1 := hPc.q1
    have hqc := hPc.lt
    go_wp2_with (first | (go_at_call 26; refine (things_any W b cap bm _ hPc.view hu hl).mono ?_; rintro e w5 ⟨⟨tad, tc, rfl, hown5⟩, hb5⟩))
    have hX5 := (HX.out.1).same hb5
    have HXw : Hid (w2.heap.size ≤ X ∧ X < wc.heap.size) := ⟨HX.out.2.2.2, HX.out.1.lt⟩
    have hb25 : Below w2.heap.size w2 w5 := hb2c.trans (hb5.mono hb2c.size)
    have HP0 : Hid (PlX w5 w5 X (sl g0 W.length c0) (.slice a1 R.length c1) [] false (.slice none 0 0) (.slice none 0 0)) := plx_first hX5.box
    have HO : Hid (w5.ownsRow wc.heap.size 3 1 (.slice tad (refs (places W 2)).length tc) (refs (places W 2)).length (vals (refs (places W 2)))) := hown5
    have HL : Hid ((refs (places W 2)).length = (places W 2).length) := refs_length _
    have HW5 : Hid (w5.ownsRow w2.heap.size 3 1 (sl g0 W.length c0) W.length (vals W)) := own_same HX.out.2.1 fun g hg => hb5.block g (HX.out.2.1.lt g hg).2
    have HR5 : Hid (w5.ownsRow w2.heap.size 3 1 (.slice a1 R.length c1) R.length (vals R)) := own_same HX.out.2.2.1 fun g hg => hb5.block g (HX.out.2.2.1.lt g hg).2
    have HNX : Hid ((sl g0 W.length c0).ownBlock ≠ some X ∧ (Value.slice a1 R.length c1).ownBlock ≠ some X) := by
      have hb := HX.out.1.box
      constructor
      all_goals
        intro e
        first
          | (rcases HX.out.2.1.2 with ⟨h, _⟩ | ⟨g, cap', cur, h, _, hh, _⟩; cases h; rw [h] at e; simp only [Value.ownBlock, Option.some.injEq] at e; rw [e, hb] at hh; cases hh; done)
          | (rcases HX.out.2.2.1.2 with ⟨h, _⟩ | ⟨g, cap', cur, h, _, hh, _⟩; (rw [h] at e; cases e); rw [h] at e; simp only [Value.ownBlock, Option.some.injEq] at e; rw [e, hb] at hh; cases hh; done)
    have hP5 := hPc.same hb5
    have hbW : Hid (∀ wr, Kept3 X X X w5 wr → Below w2.heap.size w2 wr) := fun wr hk => hb25.trans (hk.below hb25.size HXw.out.1 HXw.out.1 HXw.out.1)
    clear hX5 hown5 y0 y1 q0 q1 q2 hPc HX
    go_loopw [23] (fun s wr => ∃ (i : Nat) (vad : Option Addr) (vc : Nat), s = .int .i64 i ∧ i ≤ (refs (places W 2)).length ∧ Hid (PlX wr w5 X (sl g0 W.length c0) (.slice a1 R.length c1) (((places W 2).take i).map (wd C)) false (.slice vad i vc) (.slice none 0 0))) (fun s _ => (refs (places W 2)).length - (intOf s).toNat)
    case atStart => exact ⟨0, none, 0, rfl, Nat.zero_le _, HP0.out⟩
    case round =>
      clear HP0
      obtain ⟨i, vad, vc, rfl, hi', HP⟩ := hrel
      obtain ⟨⟨x0, x1, x2, x3, x4⟩, xf⟩ := HP.out.cells
      have hXl := HP.out.lt
      have hk := HP.out.kept
      have hPr := hP2.same (hbW.out _ hk)
      have hq3 := hPr.q3
      have hqr := hPr.lt
      by_cases hlt : i < (refs (places W 2)).length
      · have hii : (i : Int) < ((refs (places W 2)).length : Int) := by omega
        have hi2 : i < (places W 2).length := by have := HL.out; omega
        obtain ⟨g, cg, hsh, hge, hown0⟩ := own_shape HO.out (fun e => by injection e with _ h1 _; omega)
        simp only [Value.slice.injEq, true_and] at hsh
        obtain ⟨rfl, rfl⟩ := hsh
        have hgl := own_lt hown0
        have hcl : wr.cell? ⟨g, i, none⟩ = _ := (World.cell?_of_block (a := ⟨g, i, none⟩) (hk.2 g hgl (by have := HXw.out; omega) (by have := HXw.out; omega) (by have := HXw.out; omega))).trans (own_cell hown0 hlt)
        have hgw : g < wr.heap.size := Nat.lt_of_lt_of_le hgl hk.size
        have hmem : (places W 2)[i] ∈ places W 2 := List.getElem_mem hi2
        have hwdi : wd (refs (places W 2)) i = 2 * ((places W 2)[i] : Int) := by
          unfold wd refs; rw [List.getD_eq_getElem?_getD, List.getElem?_map, List.getElem?_eq_getElem hi2]; rfl
        have hpg := (place_ge hmem).2
        have ht := ref_thing hl hmem
        rw [hwdi] at hcl
        obtain ⟨n, D, hD, hDn, hDh, hDa⟩ := hPr.map
        have hav := hDa _ _ (col_yes (C := C) ht)
        rw [pl2_two] at hav
        have HT : Hid (((places W 2).take (i + 1)).map (wd C) = ((places W 2).take i).map (wd C) ++ [wd C (places W 2)[i]]) := by
          show _ = _
          rw [List.take_succ_eq_append_getElem hi2, List.map_append]; rfl
        have HLn : Hid ((((places W 2).take i).map (wd C)).length = i) := by show _ = _; rw [List.length_map, List.length_take]; omega
        clear hDh hDa hwdi ht hmem
        generalize (places W 2)[i] = p at *
        have hwf : (Lit.int .i64 (2 * (p : Int))).wf = true := by go_wf
        have hDd : wr.drew.ownsMap Try.prog 3 (plainElem Try.prog 3) mm n D := ownsMap_below hD (Below.refl _ _).drew hD.lt
        obtain ⟨y, hlook, hyat, hyw⟩ := hDd.lookup_int key3 ty59 ty3 (zero3 _) (keyOf_int_mk ty3 hwf)
        have hyc : wd C p = y := by rw [hav] at hyat; simp at hyat; exact hyat
        rw [hyc] at HT
        have HE1 : Hid (wr.drew.ownsRow w5.heap.size 3 1 (.slice vad i vc) i (vals (((places W 2).take i).map (wd C)))) := by have := HP.out.cs.drew; rw [HLn.out] at this; exact this
        have hs5 : w5.heap.size ≤ wr.heap.size := hk.size
        have HOF : Hid ((Value.slice vad i vc).ownBlock ≠ some X) := HP.out.off
        clear hyat hav hyw
        go_upto_region 5 with fail
        go_region_law (refine step_append_at (y := y) (v := .slice vad i vc) rfl (.tmp 28) (.tmp 35) rfl rfl rfl (HE1.out.alloc _) (cell_one_new _ _ _) (by have := HL.out; omega) (by simp; omega) ?_; intro g c w3 hown3 hgrow3 hat3; have hbk := ((hgrow3.block X (by simp; omega) (fun e => HOF.out e.symm)).trans (Below.heap_alloc wr.drew _ _ hXl)); have z2 : w3.cell? ⟨X, 2, none⟩ = some (.slice vad i vc) := (World.cell?_of_block hbk).trans x2; have zf : w3.frozen? ⟨X, 2, none⟩ = false := (World.frozen?_of_block hbk).trans (xf 2); have hz3 := hgrow3.size; have hX3 : X < w3.heap.size := (by simp at hz3; omega))
        all_goals
          have hg1 := (HP.out.same (Below.refl _ _).drew).growC (x := y) (g := g) (c := c) (w2 := w3) (o := .cells #[.int .i64 y] 3) (by rw [HLn.out, show vals (((places W 2).take i).map (wd C) ++ [y]) = vals (((places W 2).take i).map (wd C)) ++ [.int .i64 y] by simp [vals]]; exact hown3) hgrow3
          rw [HLn.out] at hg1
          go_wp2_with fail
          go_roundw
          case rel => exact ⟨i + 1, some ⟨g, 0, none⟩, c, by first | rfl | simp, by omega, by rw [HT.out]; exact hg1⟩
          case measure => simp [intOf]; omega
      · have hii : ¬ (i : Int) < ((refs (places W 2)).length : Int) := by omega
        have hCL : ((places W 2).take i).map (wd C) = coloursT ⟨W, R, C⟩ := by rw [List.take_of_length_le (by have := HL.out; omega)]; rfl
        have HPd : Hid (PlX wr w5 X (sl g0 W.length c0) (.slice a1 R.length c1) (coloursT ⟨W, R, C⟩) false (.slice vad i vc) (.slice none 0 0)) := by rw [← hCL]; exact HP.out
        have once1 : Hid (1 = 1) := rfl
        have n1 : ¬ X = w.heap.size := by have := HXw.out; omega
        have n2 : ¬ w.heap.size = X := by omega
        have HA0 : Hid (∀ w0, Pt w0 L Q b cap bm mm T (.slice ra R.length rc) W R (colF W C) → Calls Try.prog 40 #[.pointer (some ⟨Q, 0, none⟩), .int .i64 0] w0 fun e w' => OwnedAny w0.heap.size (refs (ofCol W C 0)) e w' ∧ Below w0.heap.size w0 w') := fun w0 h => tall_any L Q b cap bm mm T _ W R C 0 w0 h hu hl
        clear hCL HP hq3 x0 x1 x2 x3 x4 xf hXl hqr
        cases ho : ofCol W C 1 with
        | nil =>
          have HD : Hid (doneT ⟨W, R, C⟩ = true) := by show _ = _; rw [done_is, ho]; rfl
          have HFr : Hid (freedT ⟨W, R, C⟩ = refs (ofCol W C 0)) := freed_yes HD.out
          have HA1 : Hid (∀ w0, Pt w0 L Q b cap bm mm T (.slice ra R.length rc) W R (colF W C) → Calls Try.prog 40 #[.pointer (some ⟨Q, 0, none⟩), .int .i64 1] w0 fun e w' => (∃ ad c, e = .returned (.slice ad 0 c)) ∧ Below w0.heap.size w0 w') := fun w0 h => by
            have := tall_any L Q b cap bm mm T _ W R C 1 w0 h hu hl
            rw [ho] at this
            exact this.mono fun _ _ h => ⟨let ⟨ad, c, he, _⟩ := h.1; ⟨ad, c, he⟩, h.2⟩
          clear ho
          generalize refs (ofCol W C 0) = fr at *
          go_wp2_with (first
            | (have o := once1; clear once1 o; go_at_call 40; refine (HA1.out _ hPr).mono ?_; rintro e w6 ⟨⟨ad6, c6, rfl⟩, hb6⟩; have HP6 := HPd.out.same hb6; obtain ⟨⟨x0, x1, x2, x3, x4⟩, xf⟩ := HP6.cells; have hX6 := HP6.lt; have HP6d := HP6.setD true)
            | (go_at_call 40; refine (HA0.out _ (hP2.same (hbW.out _ HP6d.kept))).mono ?_; rintro e w7 ⟨⟨fa, fc, rfl, hown7⟩, hb7⟩; have HP7 := HP6d.same hb7; clear x0 x1 x2 x3 x4 xf; obtain ⟨⟨x0, x1, x2, x3, x4⟩, xf⟩ := HP7.cells; have hX7 := HP7.lt; have hb27 := hbW.out _ HP7.kept; have q7 : Bx w7 w.heap.size _ _ _ _ _ := ((hb27.block w.heap.size hzw).trans Hres.out); obtain ⟨⟨r0, r1, r2, r3, r4⟩, rf⟩ := q7.cells; have hz7 : w.heap.size < w7.heap.size := q7.lt))
          have HP8 := HP7.setF (.slice fa fr.length fc)
          have hb28 := hbW.out _ HP8.kept
          have hXs := hown7.lt
          refine bodyPost_ret (v := .agg #[sl g0 W.length c0, .slice a1 R.length c1, .slice vad i vc, .bool true, .slice fa fr.length fc]) (by simp [results, Try.results19, go_sem, r0, r1, r2, r3, r4]) rfl ⟨⟨sl g0 W.length c0, .slice a1 R.length c1, .slice vad i vc, .slice fa fr.length fc, by rw [HD.out], ?_⟩, ?_⟩
          · have HW8 := own_same HW5.out fun g hg => HP8.kept.2 g (HW5.out.lt g hg).2 (fun e => HNX.out.1 (by rw [← e]; exact hg)) (fun e => HNX.out.1 (by rw [← e]; exact hg)) (fun e => HNX.out.1 (by rw [← e]; exact hg))
            have HR8 := own_same HR5.out fun g hg => HP8.kept.2 g (HR5.out.lt g hg).2 (fun e => HNX.out.2 (by rw [← e]; exact hg)) (fun e => HNX.out.2 (by rw [← e]; exact hg)) (fun e => HNX.out.2 (by rw [← e]; exact hg))
            have hk6 := HP6d.kept.size
            have HF8 : (w7.setCell ⟨X, 4, none⟩ (.slice fa fr.length fc)).ownsRow w5.heap.size 3 1 (.slice fa fr.length fc) fr.length (vals fr) := ownsRow_setCell_other (own_mono hk6 hown7) (fun e => by have := (hown7.lt X e).1; have := HPd.out.xl; omega) _
            have hcs := HP8.cs
            have hs5 := hb25.size
            refine ⟨own_mono (Nat.le_of_lt hzw) (own_set5 HW8 (fun e => by have := (HW8.lt _ e).1; omega)), own_mono (Nat.le_of_lt hzw) (own_set5 HR8 (fun e => by have := (HR8.lt _ e).1; omega)), own_mono (by omega) (own_set5 hcs (fun e => by have := (hcs.lt _ e).1; omega)), ?_⟩
            · rw [HFr.out]
              exact own_mono (by omega) (own_set5 HF8 (fun e => by have := (HF8.lt _ e).1; omega))
          · exact below_set5 (hb2.trans (hb28.mono hb2.size)) (Nat.le_refl _)
        | cons p r =>
          have HD : Hid (doneT ⟨W, R, C⟩ = false) := by show _ = _; rw [done_is, ho]; rfl
          have HFr : Hid (freedT ⟨W, R, C⟩ = []) := freed_no HD.out
          have HA1 : Hid (∀ w0, Pt w0 L Q b cap bm mm T (.slice ra R.length rc) W R (colF W C) → Calls Try.prog 40 #[.pointer (some ⟨Q, 0, none⟩), .int .i64 1] w0 fun e w' => (∃ ad n c, e = .returned (.slice ad n c) ∧ 0 < n) ∧ Below w0.heap.size w0 w') := fun w0 h => by
            have := tall_any L Q b cap bm mm T _ W R C 1 w0 h hu hl
            rw [ho] at this
            exact this.mono fun _ _ h => ⟨let ⟨ad, c, he, _⟩ := h.1; ⟨ad, _, c, he, by simp [refs]⟩, h.2⟩
          clear ho
          go_wp2_with (first
            | (go_at_call 40; refine (HA1.out _ hPr).mono ?_; rintro e w7 ⟨⟨ad6, n6, c6, rfl, hn6⟩, hb6⟩; have hn0 : ((n6 : Int) == 0) = false := (by rw [beq_eq_false_iff_ne]; omega); have HP7 := HPd.out.same hb6; obtain ⟨⟨x0, x1, x2, x3, x4⟩, xf⟩ := HP7.cells; have hX6 := HP7.lt; have hb27 := hbW.out _ HP7.kept; have q7 : Bx w7 w.heap.size _ _ _ _ _ := ((hb27.block w.heap.size hzw).trans Hres.out); obtain ⟨⟨r0, r1, r2, r3, r4⟩, rf⟩ := q7.cells; have hz7 : w.heap.size < w7.heap.size := q7.lt))
          have HP8 := HP7.setD false
          have hb28 := hbW.out _ HP8.kept
          refine bodyPost_ret (v := .agg #[sl g0 W.length c0, .slice a1 R.length c1, .slice vad i vc, .bool false, .slice none 0 0]) (by simp [results, Try.results19, go_sem, r0, r1, r2, r3, r4]) rfl ⟨⟨sl g0 W.length c0, .slice a1 R.length c1, .slice vad i vc, .slice none 0 0, by rw [HD.out], ?_⟩, ?_⟩
          · have HW8 := own_same HW5.out fun g hg => HP8.kept.2 g (HW5.out.lt g hg).2 (fun e => HNX.out.1 (by rw [← e]; exact hg)) (fun e => HNX.out.1 (by rw [← e]; exact hg)) (fun e => HNX.out.1 (by rw [← e]; exact hg))
            have HR8 := own_same HR5.out fun g hg => HP8.kept.2 g (HR5.out.lt g hg).2 (fun e => HNX.out.2 (by rw [← e]; exact hg)) (fun e => HNX.out.2 (by rw [← e]; exact hg)) (fun e => HNX.out.2 (by rw [← e]; exact hg))
            have hcs := HP8.cs
            have hs5 := hb25.size
            refine ⟨own_mono (Nat.le_of_lt hzw) (own_set5 HW8 (fun e => by have := (HW8.lt _ e).1; omega)), own_mono (Nat.le_of_lt hzw) (own_set5 HR8 (fun e => by have := (HR8.lt _ e).1; omega)), own_mono (by omega) (own_set5 hcs (fun e => by have := (hcs.lt _ e).1; omega)), ?_⟩
            · rw [HFr.out]
              exact World.ownsRow_nil _ _ _ _
          · exact below_set5 (hb2.trans (hb28.mono hb2.size)) (Nat.le_refl _)
end Go.Proofs.Ythdhaokjibfjdaa
