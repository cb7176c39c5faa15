/- Package tri: Play. -/
import Derived.Test.YthdhaokjibfjdaaLawKitX
import Derived.Test.YthdhaokjibfjdaaGd
import Derived.Test.YthdhaokjibfjdaaGf
import Derived.Test.YthdhaokjibfjdaaGg
namespace Go.Proofs.Ythdhaokjibfjdaa
open Go.RowKit

theorem Bx.fault {w w' : World} {a : Value} {t t'' : TypeId} {p0 p1 p2 p3 p4 x y : Value} (hb : Below (((w.alloc (.cells #[a] t)).alloc (.cells #[p0, p1, p2, p3, p4] 30)).alloc (.cells #[x, y] t'')).heap.size (((w.alloc (.cells #[a] t)).alloc (.cells #[p0, p1, p2, p3, p4] 30)).alloc (.cells #[x, y] t'')) w') :
    Bx w' (w.heap.size + 1) p0 p1 p2 p3 p4 ∧ (w'.cell? ⟨w.heap.size + 1 + 1, 0, none⟩ = some x ∧ w'.cell? ⟨w.heap.size + 1 + 1, 1, none⟩ = some y) ∧ (w'.frozen? ⟨w.heap.size + 1 + 1, 0, none⟩ = false ∧ w'.frozen? ⟨w.heap.size + 1 + 1, 1, none⟩ = false) ∧ w.heap.size + 1 + 1 < w'.heap.size := by
  have hs := hb.size
  refine ⟨?_, ⟨?_, ?_⟩, ⟨?_, ?_⟩, by simp at hs; omega⟩
  · have h1 := Bx.new (w.alloc (.cells #[a] t)) p0 p1 p2 p3 p4
    have h2 := (h1.same ((Below.refl _ _).alloc (Nat.le_refl _) (.cells #[x, y] t''))).same hb
    simpa using h2
  · rw [hb.cell (p := ⟨w.heap.size + 1 + 1, 0, none⟩) (by simp), cell_at2 (by simp)]; rfl
  · rw [hb.cell (p := ⟨w.heap.size + 1 + 1, 1, none⟩) (by simp), cell_at2 (by simp)]; rfl
  · rw [hb.frozen (p := ⟨w.heap.size + 1 + 1, 0, none⟩) (by simp), frozen_at2 (by simp)]
  · rw [hb.frozen (p := ⟨w.heap.size + 1 + 1, 1, none⟩) (by simp), frozen_at2 (by simp)]

set_option maxRecDepth 20000 in
set_option maxHeartbeats 4000000 in
theorem tplay_no (W roots : List Int) (ops : List OpT) (ad rad oad : Option Addr) (cap rcap ocap : Nat) (w : World) (hm : W.length ≤ maxLen) (hr : WordsAt ad W w) (hroots : RootsAt rad roots w) (_hops : OpsAt oad ops w) (hrl : roots.length ≤ 5000) (_hol : ops.length ≤ 800) (h : (rootsOf W roots).1 ≠ 0) :
    Calls Try.prog 6 #[heapV ad W.length cap, .slice rad roots.length rcap, .slice oad ops.length ocap] w fun e w' => e = .returned (.tuple #[.agg #[.slice none 0 0, .slice none 0 0, .slice none 0 0, .bool false, .slice none 0 0], .agg #[.int .i64 (rootsOf W roots).1, .int .i64 (rootsOf W roots).2]]) ∧ Below w.heap.size w w' := by
  have hs : Hid (∀ w0, WordsAt ad W w0 → RootsAt rad roots w0 → Calls Try.prog 16 #[heapV ad W.length cap, .slice rad roots.length rcap] w0 fun e w' => e = .returned (.tuple #[noView, .agg #[.int .i64 (rootsOf W roots).1, .int .i64 (rootsOf W roots).2]]) ∧ Below w0.heap.size w0 w') :=
    fun w0 h1 h2 => rsee_bad W roots ad rad cap rcap w0 hm h1 h2 hrl h
  have HR : Hid (WordsAt ad W w) := hr
  have HO : Hid (RootsAt rad roots w) := hroots
  generalize rootsOf W roots = F at *
  have hb : (F.1 != 0) = true := by simpa using h
  clear h hr hroots _hops
  go_enter Try.func6, Try.ntmps6
  go_wp2_with (go_at_call 16; refine (hs.out _ (fun h => let ⟨b, off, e, r⟩ := HR.out h; ⟨b, off, e, ((r.alloc _).alloc _).alloc _⟩) (HO.out.below ((((Below.refl _ _).alloc (Nat.le_refl _) _).alloc (by simp) _).alloc (by simp; omega) _))).mono ?_; rintro e w1 ⟨rfl, hb1⟩; obtain ⟨q1, ⟨c2, c3⟩, ⟨f2, f3⟩, hz⟩ := Bx.fault hb1; obtain ⟨⟨x0, x1, x2, x3, x4⟩, xf⟩ := q1.cells; have hz0 : w.heap.size + 1 < w1.heap.size := (by omega); obtain ⟨q1', ⟨d2, d3⟩, ⟨g2, g3⟩, hz'⟩ := Bx.fault ((hb1.alloc (by simp; omega) (Obj.cells #[Value.slice none 0 0, Value.map none] 46)).alloc (by simp; omega) (Obj.cells #[Value.int IntKind.i64 F.1, Value.int IntKind.i64 F.2] 33)); obtain ⟨⟨y0, y1, y2, y3, y4⟩, yf⟩ := q1'.cells)
  go_region
  go_wp2_with fail
  refine bodyPost_ret (v := .tuple #[.agg #[.slice none 0 0, .slice none 0 0, .slice none 0 0, .bool false, .slice none 0 0], .agg #[.int .i64 F.1, .int .i64 F.2]]) (by simp [results, Try.results6, go_sem, y0, y1, y2, y3, y4, d2, d3]) rfl ⟨rfl, ?_⟩
  refine Below.drew ?_
  refine Below.setCell ?_ (by dsimp only; omega) _
  refine Below.setCell ?_ (by dsimp only; omega) _
  refine Below.setCell ?_ (by dsimp only; omega) _
  refine Below.setCell ?_ (by dsimp only; omega) _
  refine Below.setCell ?_ (by dsimp only; omega) _
  refine Below.setCell ?_ (by dsimp only; omega) _
  refine Below.setCell ?_ (by dsimp only; omega) _
  refine Below.alloc ?_ (by simp; omega) _
  refine Below.alloc ?_ (by omega) _
  exact below3 hb1

theorem Pn.same {w w' : World} {L Q T : Nat} {s : Tri} (h : Pn w L Q T s) (hb : Below w.heap.size w w') : Pn w' L Q T s := by
  obtain ⟨b, cap, bm, mm, rv, hP⟩ := h
  exact ⟨b, cap, bm, mm, rv, hP.same hb⟩
theorem Pn.up {w : World} {L Q T T' : Nat} {s : Tri} (h : Pn w L Q T s) (ht : T ≤ T') : Pn w L Q T' s := by
  obtain ⟨b, cap, bm, mm, rv, hP⟩ := h
  exact ⟨b, cap, bm, mm, rv, hP.up ht⟩
theorem Pn.low {w : World} {L Q T : Nat} {s : Tri} (h : Pn w L Q T s) : L ≤ w.heap.size := by
  obtain ⟨b, cap, bm, mm, rv, hP⟩ := h
  exact hP.low'

theorem TellAns.mono {w : World} {B B' : Nat} {s : Tri} {v0 v1 v2 v4 : Value} (h : TellAns w B s v0 v1 v2 v4) (hB : B' ≤ B) : TellAns w B' s v0 v1 v2 v4 := ⟨own_mono hB h.words, own_mono hB h.roots, own_mono hB h.cols, own_mono hB h.freed⟩
set_option maxRecDepth 20000 in
set_option maxHeartbeats 8000000 in
theorem tplay_own (W roots : List Int) (ops : List OpT) (ad rad oad : Option Addr) (cap rcap ocap : Nat) (w : World) (hr : WordsAt ad W w) (hroots : RootsAt rad roots w) (hops : OpsAt oad ops w) (hrl : roots.length ≤ 5000) (hol : ops.length ≤ 800) (h : (rootsOf W roots).1 = 0) :
    Calls Try.prog 6 #[heapV ad W.length cap, .slice rad roots.length rcap, .slice oad ops.length ocap] w fun e w' => (∃ v0 v1 v2 v4, e = .returned (.tuple #[.agg #[v0, v1, v2, .bool (doneT (playT W roots ops)), v4], .agg #[.int .i64 0, .int .i64 0]]) ∧ TellAns w' w.heap.size (playT W roots ops) v0 v1 v2 v4) ∧ Below w.heap.size w w' := by
  have hs : Hid (∀ w0, WordsAt ad W w0 → RootsAt rad roots w0 → Calls Try.prog 16 #[heapV ad W.length cap, .slice rad roots.length rcap] w0 fun e w' => ViewAns W w0.heap.size e w' ∧ Below w0.heap.size w0 w') :=
    fun w0 h1 h2 => rsee_good W roots ad rad cap rcap w0 h1 h2 hrl h
  obtain ⟨hc, _, _⟩ := roots_zero h
  have hok := ok_rootsOf h
  have hf := fine_of hc
  have hl : W.length ≤ 2000 := hf.few
  have hu : unfit W 2 = none := hf.fit
  have HR : Hid (WordsAt ad W w) := hr
  have HO : Hid (RootsAt rad roots w) := hroots
  have HOP : Hid (OpsAt oad ops w) := hops
  clear h hr hroots hops
  go_enter Try.func6, Try.ntmps6
  go_wp2_with (first
    | (go_at_call 16; refine (hs.out _ (fun h => let ⟨b, off, e, r⟩ := HR.out h; ⟨b, off, e, ((r.alloc _).alloc _).alloc _⟩) (HO.out.below ((((Below.refl _ _).alloc (Nat.le_refl _) _).alloc (by simp) _).alloc (by simp; omega) _))).mono ?_; rintro e w1 ⟨⟨b, cap', bm, rfl, hv, hb, hbm, hne⟩, hb1⟩; have hz1 := (Bx.fault hb1).2.2.2; have hb' : w.heap.size + 3 ≤ b := (by simp at hb; omega); have hbm' : w.heap.size + 3 ≤ bm := (by simp at hbm; omega); have hb01 := below3 hb1)
    | (go_at_call 17; refine (tpaint_any W roots (w.heap.size + 3) b cap' bm rad rcap _ ((hv.alloc _).alloc _) hb' hbm' hne (by simp; omega) (HO.out.below ((hb01.alloc hb01.size _).alloc (by have := hb01.size; simp; omega) _)) hu hl (by omega)).mono ?_; rintro e w3 ⟨Q, mm, rv, rfl, hP3, hB3⟩))
  have hB13 : Below (w.heap.size + 3) w1 w3 := (((Below.refl _ _).alloc (by omega) _).alloc (by simp; omega) _).trans hB3
  have hB03 : Below (w.heap.size + 3) _ w3 := (hb1.mono (by simp)).trans hB13
  have HRes : Hid (∀ wr, Below (w.heap.size + 3) w3 wr → (Bx wr (w.heap.size + 1) (.slice none 0 0) (.slice none 0 0) (.slice none 0 0) (.bool false) (.slice none 0 0) ∧ (wr.cell? ⟨w.heap.size + 1 + 1, 0, none⟩ = some (.int .i64 0) ∧ wr.cell? ⟨w.heap.size + 1 + 1, 1, none⟩ = some (.int .i64 0)) ∧ (wr.frozen? ⟨w.heap.size + 1 + 1, 0, none⟩ = false ∧ wr.frozen? ⟨w.heap.size + 1 + 1, 1, none⟩ = false) ∧ w.heap.size + 1 + 1 < wr.heap.size) ∧ Below w.heap.size w wr) := fun wr hb => by
    have hb2 := hB03.trans hb
    exact ⟨Bx.fault (hb2.mono (by simp)), below3 (hb2.mono (by simp))⟩
  have HN3 : Hid (Pn w3 (w.heap.size + 3) Q (7000 + 3000 * 0) ((ops.take 0).foldl doT (firstT W roots))) := ⟨b, cap', bm, mm, rv, hP3.up (by omega)⟩
  have HI3 : Hid (TInv W roots ((ops.take 0).foldl doT (firstT W roots)) ∧ ((ops.take 0).foldl doT (firstT W roots)).R.length ≤ roots.length + 0) := ⟨first_inv hc hok, Nat.le_refl _⟩
  clear hP3 hB3 hB13 hB03 hv hb hbm hb' hbm' hne hb1 hb01 hz1
  go_loopw [29] (fun s wr => ∃ (i : Nat), s = .int .i64 i ∧ i ≤ ops.length ∧ Hid (Pn wr (w.heap.size + 3) Q (7000 + 3000 * i) ((ops.take i).foldl doT (firstT W roots))) ∧ Hid (TInv W roots ((ops.take i).foldl doT (firstT W roots)) ∧ ((ops.take i).foldl doT (firstT W roots)).R.length ≤ roots.length + i) ∧ Below (w.heap.size + 3) w3 wr) (fun s _ => ops.length - (intOf s).toNat)
  case atStart => exact ⟨0, rfl, Nat.zero_le _, HN3.out, HI3.out, Below.refl _ _⟩
  case round =>
    clear HN3 HI3
    obtain ⟨i, rfl, hi1, HN, HI, hB⟩ := hrel
    obtain ⟨⟨q1, ⟨d0, d1⟩, ⟨f0, f1⟩, hz⟩, hB0⟩ := HRes.out _ hB
    have hlow := HN.out.low
    by_cases hlt : i < ops.length
    · obtain ⟨ob, oo, hoad, hobl, hcs⟩ := (HOP.out.below hB0) (by omega)
      subst hoad
      obtain ⟨c0, c1, c2, c3, c4, c5⟩ := hcs i hlt
      have hir : (i : Int) < (ops.length : Int) := by omega
      have HS : Hid ((ops.take (i + 1)).foldl doT (firstT W roots) = doT ((ops.take i).foldl doT (firstT W roots)) ops[i]) := by rw [List.take_succ_eq_append_getElem hlt, List.foldl_append]; exact rfl
      have HDo : Hid (∀ w0, Pn w0 (w.heap.size + 3) Q (7000 + 3000 * i) ((ops.take i).foldl doT (firstT W roots)) → Calls Try.prog 18 #[.pointer (some ⟨Q, 0, none⟩), opV ops[i]] w0 (OpAns (w.heap.size + 3) Q (7000 + 3000 * i + 3000) (doT ((ops.take i).foldl doT (firstT W roots)) ops[i]) w0)) := fun w0 h0 => tdo_any (w.heap.size + 3) Q (7000 + 3000 * i) _ ops[i] w0 h0 HI.out.1 (by have := HI.out.2; omega) (by omega)
      have HI' : Hid (TInv W roots (doT ((ops.take i).foldl doT (firstT W roots)) ops[i]) ∧ (doT ((ops.take i).foldl doT (firstT W roots)) ops[i]).R.length ≤ roots.length + (i + 1)) := ⟨do_inv _ HI.out.1, by have := do_roots ((ops.take i).foldl doT (firstT W roots)) ops[i]; have := HI.out.2; omega⟩
      generalize ops[i] = op at *
      obtain ⟨kind, oo', pos, what, form, size⟩ := op
      simp only at c0 c1 c2 c3 c4 c5
      have hNa : Hid (∀ o : Obj, Pn (World.alloc _ o) (w.heap.size + 3) Q (7000 + 3000 * i) ((ops.take i).foldl doT (firstT W roots))) := fun o => HN.out.same ((Below.refl _ _).alloc (Nat.le_refl _) o)
      clear hcs HN HI q1 d0 d1 f0 f1 hz
      generalize (ops.take i).foldl doT (firstT W roots) = s0 at *
      generalize doT s0 ⟨kind, oo', pos, what, form, size⟩ = s1 at *
      go_wp2_with (first | (go_at_call 18; refine (HDo.out _ (hNa.out _)).mono ?_; rintro e w4 ⟨rfl, hN4, hB4⟩))
      go_roundw
      case rel => exact ⟨i + 1, by first | rfl | simp, by omega, by rw [HS.out]; exact hN4.up (by omega), by rw [HS.out]; exact HI'.out, (hB.alloc hlow _).trans hB4⟩
      case measure => simp [intOf]; omega
    · have hir : ¬ (i : Int) < (ops.length : Int) := by omega
      have he : i = ops.length := by omega
      have hNp : Pn wr (w.heap.size + 3) Q (7000 + 3000 * i) (playT W roots ops) := by have := HN.out; rw [show ops.take i = ops by rw [he, List.take_length]] at this; exact this
      have hIp : TInv W roots (playT W roots ops) ∧ (playT W roots ops).R.length ≤ roots.length + i := by have := HI.out; rw [show ops.take i = ops by rw [he, List.take_length]] at this; exact this
      obtain ⟨b5, cap5, bm5, mm5, rv5, hP5⟩ := hNp
      have HT : Hid (Calls Try.prog 19 #[.pointer (some ⟨Q, 0, none⟩)] wr fun e w' => (∃ v0 v1 v2 v4, e = .returned (.agg #[v0, v1, v2, .bool (doneT (playT W roots ops)), v4]) ∧ TellAns w' wr.heap.size (playT W roots ops) v0 v1 v2 v4) ∧ Below wr.heap.size wr w') :=
        ttold_any (w.heap.size + 3) Q b5 cap5 bm5 mm5 _ rv5 _ _ _ wr hP5 hIp.1.may hIp.1.roots (by have := hIp.2; show (playT W roots ops).R.length ≤ 50000; omega)
      clear hP5 hIp HN HI he
      generalize hSS : playT W roots ops = s at *
      have HSS : Hid (playT W roots ops = s) := hSS
      clear hSS
      go_wp2_with (first | (go_at_call 19; refine HT.out.mono ?_; rintro e w6 ⟨⟨v0, v1, v2, v4, rfl, hA6⟩, hb6⟩; obtain ⟨p0, k0, p1, k1, p2, k2, p4, k4, rfl, rfl, rfl, rfl⟩ := hA6.forms; obtain ⟨⟨q6, ⟨d0, d1⟩, ⟨f0, f1⟩, hz6⟩, hB6⟩ := HRes.out _ (hB.trans (hb6.mono hlow)); obtain ⟨⟨x0, x1, x2, x3, x4⟩, xf⟩ := q6.cells; have hz6' : w.heap.size + 1 < w6.heap.size := (by omega)))
      refine bodyPost_ret (v := .tuple #[.agg #[.slice p0 s.W.length k0, .slice p1 s.R.length k1, .slice p2 (coloursT s).length k2, .bool (doneT s), .slice p4 (freedT s).length k4], .agg #[.int .i64 0, .int .i64 0]]) (by simp [results, Try.results6, go_sem, x0, x1, x2, x3, x4, d0, d1]) rfl ⟨?_, ?_⟩
      · rw [HSS.out]
        refine ⟨_, _, _, _, rfl, (hA6.keep fun g hg hgl => ?_).mono (by omega)⟩
        refine (Below.heap_setCell _ _ _ _ (by dsimp only; omega)).trans ?_
        refine (Below.heap_setCell _ _ _ _ (by dsimp only; omega)).trans ?_
        refine (Below.heap_setCell _ _ _ _ (by dsimp only; omega)).trans ?_
        refine (Below.heap_setCell _ _ _ _ (by dsimp only; omega)).trans ?_
        refine (Below.heap_setCell _ _ _ _ (by dsimp only; omega)).trans ?_
        refine (Below.heap_setCell _ _ _ _ (by dsimp only; omega)).trans ?_
        exact Below.heap_setCell _ _ _ _ (by dsimp only; omega)
      · refine Below.setCell ?_ (by dsimp only; omega) _
        refine Below.setCell ?_ (by dsimp only; omega) _
        refine Below.setCell ?_ (by dsimp only; omega) _
        refine Below.setCell ?_ (by dsimp only; omega) _
        refine Below.setCell ?_ (by dsimp only; omega) _
        refine Below.setCell ?_ (by dsimp only; omega) _
        refine Below.setCell ?_ (by dsimp only; omega) _
        exact hB6
theorem tplay_yes (W roots : List Int) (ops : List OpT) (ad rad oad : Option Addr) (cap rcap ocap : Nat) (w : World) (hr : WordsAt ad W w) (hroots : RootsAt rad roots w) (hops : OpsAt oad ops w) (hrl : roots.length ≤ 5000) (hol : ops.length ≤ 800) (h : (rootsOf W roots).1 = 0) (_hcap : W.length ≤ cap) :
    Calls Try.prog 6 #[heapV ad W.length cap, .slice rad roots.length rcap, .slice oad ops.length ocap] w fun e w' => TpAns (playT W roots ops) e w' ∧ Below w.heap.size w w' :=
  (tplay_own W roots ops ad rad oad cap rcap ocap w hr hroots hops hrl hol h).mono fun _ _ hp => ⟨let ⟨v0, v1, v2, v4, e, hA⟩ := hp.1; ⟨v0, v1, v2, v4, e, hA.reads⟩, hp.2⟩
end Go.Proofs.Ythdhaokjibfjdaa
