/- Package move: (*mover).move, anew. -/
import Derived.Test.YtfmapgbkajlfkaaMoveKit
import Derived.Deep.RegionWith
import Derived.Deep.CutRange
import Derived.Deep.DeepCutAuto
namespace Go.Proofs.Ytfmapgbkajlfkaa
open Go.RowKit
open Go.Maps (Keyed keyOf_int_mk)

theorem mmove_none (W : List Int) (b cap bm mm Q L N : Nat) (f : List Int) (vf : Value) (rad : Option Addr) (rc : Nat) (w : World) (hC : Mover W b cap bm mm Q L N f vf w) (hF : Fit W f) :
    Calls Try.prog 35 #[.pointer (some ⟨Q, 0, none⟩), .slice rad 0 rc] w (MoveAns W b cap bm mm Q L N f w) := by
  go_enter Try.func35, Try.ntmps35
  go_wp2
  refine wp_loop_rounds 1 ?_
  rw [rounds_succ]
  go_wp2
  go_end0
  exact ⟨rfl, ⟨vf, hC⟩, hF, Below.refl _ _⟩

theorem MoverP.under {W : List Int} {b cap bm mm Q L N top : Nat} {F : Int → Option Int} {f : List Int} {vf : Value} {S : Nat} {w w' : World} (h : MoverP W b cap bm mm Q L N top F f vf S w) (hg : w.grownBy w' vf.ownBlock) :
    w'.cell? ⟨Q, 3, none⟩ = some vf ∧ w'.frozen? ⟨Q, 3, none⟩ = false ∧ Q < w'.heap.size := by
  have hs := h.size
  have hq := h.nq
  have hsz := hg.size
  have e : w'.heap[Q]? = w.heap[Q]? := hg.block Q (by omega) (fun e => by have := (h.own.lt Q e.symm).1; omega)
  exact ⟨(World.cell?_of_block (a := ⟨Q, 3, none⟩) e).trans h.q3, (World.frozen?_of_block (a := ⟨Q, 3, none⟩) e).trans h.z3, by omega⟩
theorem room_more {W : List Int} {f : List Int} {o : Int} : 2 + roomSum W ((f ++ [o]).map pl2) = 2 + roomSum W (f.map pl2) + roomAt W (pl2 o) := by
  rw [List.map_append, roomSum_append]; simp [roomSum]; omega

set_option maxHeartbeats 8000000 in
theorem mmove_some (W refs : List Int) (b cap bm mm Q L N : Nat) (f : List Int) (vf : Value) (rb ro rc : Nat) (w : World) (hC : Mover W b cap bm mm Q L N f vf w) (hF : Fit W f) (hr : Row w rb ro refs) (h0 : 0 < refs.length) (hrb : rb < L ∨ N ≤ rb) (hne : vf.ownBlock ≠ some rb) (hu : unfit W 2 = none) (h2 : 2 ≤ W.length) (hl : W.length ≤ 2000) (hrl : refs.length ≤ 100000) :
    Calls Try.prog 35 #[.pointer (some ⟨Q, 0, none⟩), .slice (some ⟨rb, ro, none⟩) refs.length rc] w (MoveAns W b cap bm mm Q L N (come W f refs) w) := by
  generalize hG : come W f refs = G
  have HG : Hid (come W f refs = G) := hG
  clear hG
  go_enter Try.func35, Try.ntmps35
  go_wp2
  go_loopw [10] (fun s wr => ∃ (i S top : Nat) (f' : List Int) (vf' : Value) (F : Int → Option Int), s = .int .i64 i ∧ i ≤ refs.length ∧ Hid (G = come W f' (refs.drop i)) ∧ Hid (S = 2 + roomSum W (f'.map pl2) ∧ F = refAt W 2 (f'.map pl2) ∧ top = f'.length) ∧ Hid (Fit W f') ∧ MoverP W b cap bm mm Q L N top F f' vf' S wr ∧ Below L w wr ∧ Row wr rb ro refs ∧ vf'.ownBlock ≠ some rb) (fun s _ => refs.length - (intOf s).toNat)
  case atStart => exact ⟨0, _, _, f, vf, _, rfl, Nat.zero_le _, HG.out.symm, ⟨rfl, rfl, rfl⟩, hF, hC, Below.refl _ _, hr, hne⟩
  case round =>
    clear hC hr hne hF
    obtain ⟨i, S, top, f', vf', F, rfl, hi, hck, HS, HF, hC, hB, hr, hne⟩ := hrel
    by_cases hlt : i < refs.length
    · have hci := hr.cell i hlt
      have hwf := hr.wf i
      have hrlt := hr.lt
      have hsz := hC.size
      have hqN := hC.nq
      have c0 := hC.q0
      have c1 := hC.q1
      have c2 := hC.q2
      have hn0 : Q < _ := Nat.lt_of_lt_of_le hC.nq hsz
      obtain ⟨n, D, hD, hDn, hDh, hDa⟩ := hC.map
      have hcn : f'.contains (wd refs i) = (F (wd refs i)).isSome := by rw [HS.out.2.1, HF.out.has]
      have hhi := hDh (wd refs i)
      have HDh : Hid (∀ o : Int, Go.Maps.has D (.int .i64 o) = (F o).isSome) := hDh
      have HDa : Hid (∀ (o x : Int), F o = some x → D.atKey (.int .i64 o) (.lit (.int .i64 0)) = .lit (.int .i64 x)) := hDa
      clear hDh hDa
      have hck' : G = come W f' (wd refs i :: refs.drop (i + 1)) := by have := hck.out; rwa [drop_cons hlt] at this
      clear hck
      by_cases hin : wd refs i ∈ f'
      · have hhas : Go.Maps.has D (.int .i64 (wd refs i)) = true := by rw [hhi, ← hcn]; exact List.contains_iff_mem.2 hin
        have Hk : Hid (G = come W f' (refs.drop (i + 1))) := by rw [come_skip (fun h => h.1 hin)] at hck'; exact hck'
        clear hck' hin hhi hcn
        go_wp2_with (at_lookup; refine wpList_lookup_own_ok_int _ rfl _ _ 38 rfl 3 3 .i64 key3 ty59 ty3 (zero3 _) mm n D rfl hD _ _ rfl (keyOf_int_mk ty3 hwf) ?_; intro c hat hwc; clear hat hwc)
        go_roundw
        case rel => exact ⟨i + 1, S, top, f', vf', F, by first | rfl | simp, by omega, Hk, HS, HF, hC, hB, hr, hne⟩
        case measure => simp [intOf]; omega
      · have hhas : Go.Maps.has D (.int .i64 (wd refs i)) = false := by
          rw [hhi, ← hcn, Bool.eq_false_iff]; exact fun h => hin (List.contains_iff_mem.1 h)
        cases ht : thingB W (wd refs i) with
        | false =>
          have Hk : Hid (G = come W f' (refs.drop (i + 1))) := by rw [come_skip (fun h => by rw [ht] at h; cases h.2)] at hck'; exact hck'
          clear hck' hin hhi hcn
          go_wp2_with (first | (at_lookup; refine wpList_lookup_own_ok_int _ rfl _ _ 38 rfl 3 3 .i64 key3 ty59 ty3 (zero3 _) mm n D rfl hD _ _ rfl (keyOf_int_mk ty3 hwf) ?_; intro c hat hwc; clear hat hwc) | (go_at_call 40; refine (has_any W b cap bm _ _ hC.view).mono ?_; rintro e w2 ⟨rfl, hb2⟩))
          go_roundw
          case rel => exact ⟨i + 1, S, top, f', vf', F, by first | rfl | simp, by omega, Hk, HS, HF, hC.below hb2, hB.trans (hb2.mono (by have := hC.nm; have := hC.lm; omega)), hr.same hb2, hne⟩
          case measure => simp [intOf]; omega
        | true =>
          have Hk : Hid (G = come W (f' ++ [wd refs i]) (refs.drop (i + 1))) := by rw [come_add ⟨hin, ht⟩] at hck'; exact hck'
          have HF2 : Hid (Fit W (f' ++ [wd refs i])) := HF.out.add hin ht
          have Hnot : Hid (pl2 (wd refs i) ∉ f'.map pl2) := HF.out.not hin ht
          obtain ⟨e2, hpl⟩ := thing_two ht
          have Hroom : Hid (2 + roomSum W ((f' ++ [wd refs i]).map pl2) = S + roomAt W (pl2 (wd refs i))) := by rw [HS.out.1]; exact room_more
          have hS : S + roomAt W (pl2 (wd refs i)) ≤ W.length := by rw [← Hroom.out]; exact roomSum_le HF2.out.once HF2.out.place h2 hu
          have Hadd : Hid ((fun k => if k = 2 * (pl2 (wd refs i) : Int) then some (2 * (S : Int)) else F k) = refAt W 2 ((f' ++ [wd refs i]).map pl2)) := by
            rw [List.map_append, show [wd refs i].map pl2 = [pl2 (wd refs i)] from rfl, refAt_snoc W _ _ _ Hnot.out, HS.out.1, HS.out.2.1]; exact rfl
          have Htop : Hid (top + 1 = (f' ++ [wd refs i]).length) := by rw [HS.out.2.2, List.length_append]; exact rfl
          have hft : top ≤ 2000 := by
            rw [HS.out.2.2]
            have h3 := HF.out.once.length_le_of_subset HF.out.place
            have h4 := (places_nodup (W := W) _ 2 (Nat.le_refl _)).length_le_of_subset (l₂ := List.range W.length) fun p hp => List.mem_range.2 (place_ge hp).2
            rw [List.length_range] at h4; rw [List.length_map] at h3; omega
          have hfl : f'.length ≤ 2000 := by rw [← HS.out.2.2]; exact hft
          clear hck' hin hhi hcn
          generalize hO : wd refs i = O at *
          clear hO
          generalize hq : pl2 O = q at *
          clear hq
          subst e2
          have hwx : (Lit.int .i64 (2 * (S : Int))).wf = true := by go_wf
          go_wp2_with (first | (at_lookup; refine wpList_lookup_own_ok_int _ rfl _ _ 38 rfl 3 3 .i64 key3 ty59 ty3 (zero3 _) mm n D rfl hD _ _ rfl (keyOf_int_mk ty3 hwf) ?_; intro c hat hwc; clear hat hwc) | (go_at_call 40; refine (has_any W b cap bm _ _ hC.view).mono ?_; rintro e w2 ⟨rfl, hb2⟩))
          have hC2 := hC.below hb2
          have d2 := hC2.q2
          have d4 := hC2.q4
          have hs2 := hC2.size
          have hq2 : Q < w2.heap.size := by omega
          have hD2 : w2.drew.ownsMap Try.prog 3 (plainElem Try.prog 3) mm n D := ownsMap_below (ownsMap_below hD hb2 hD.lt) (Below.refl _ _).drew (by have := hC2.nm; omega)
          obtain ⟨w3, hrun, hm3, hg3⟩ := hD2.update key3 ty59 (by unfold maxLen; omega) (keyOf_int_mk ty3 hwf) (plainElem_int ty3 hwx)
          go_region
          have hput := IntMap.put hD2 hDn HDh.out HDa.out hm3
          rw [Hadd.out] at hput
          obtain ⟨hC3, hB3⟩ := (hC2.below (Below.refl _ _).drew).mapped hput hg3
          have x3 := hC3.q3
          have hs3 := hC3.size
          have hq3 : Q < w3.heap.size := by omega
          clear hput hrun hm3 hD2
          go_wp2_with (at_builtin; refine wpList_append_where rfl (.tmp 47) (.tmp 49) rfl N f'.length 1 vf' (.int .i64 (2 * (q : Int))) (vals f') rfl (hC3.own.alloc _) ⟨w3.heap.size, 0, none⟩ rfl (cell_one_new _ _ _) rfl (by omega) (by simp; omega) ?_; intro v' w4 hown4 hg4 hw4; obtain ⟨g5, c5, hv5⟩ := own_slice hown4; subst hv5; obtain ⟨x4, z4, hq4⟩ := (hC3.below ((Below.refl _ _).alloc (Nat.le_refl _) _)).under hg4)
          obtain ⟨hC5, hB5⟩ := (hC3.below ((Below.refl _ _).alloc (Nat.le_refl _) _)).rowed hown4 hg4
          have hr2 := (hr.same hb2).same (Below.refl _ _).drew
          have hr3 := hr2.block (hg3.block rb hr2.lt (fun e => by injection e with e; have := hC2.nm; have := hC2.lm; omega)) hg3.size
          have hr4 := (hr3.alloc (Obj.cells #[Value.int IntKind.i64 (2 * (q : Int))] 3))
          have hlm := hC2.lm
          have hlq := hC2.lq
          have hnm := hC2.nm
          have hr5 : Row (w4.setCell ⟨Q, 3, none⟩ (sl g5 (f'.length + 1) c5)) rb ro refs := hr4.block ((Below.heap_setCell _ _ _ _ (by dsimp only; omega)).trans (hg4.block rb hr4.lt (fun e => hne e.symm))) (by have := hg4.size; simpa [World.setCell] using this)
          have hne5 : (sl g5 (f'.length + 1) c5).ownBlock ≠ some rb := fun e => by
            rcases hw4 with h | h
            · exact hne (h.symm.trans e)
            · rw [h] at e; injection e with e; have := hr3.lt; simp at e; omega
          have hbL2 : Below L w w2 := hB.trans (hb2.mono (by omega))
          have hbL5 : Below L w (w4.setCell ⟨Q, 3, none⟩ (sl g5 (f'.length + 1) c5)) := ((hbL2.trans ((Below.refl _ _).drew.trans hB3)).alloc (by omega) _).trans hB5
          clear hbL2 hr2 hr3 hr4 hw4 hB5 hB3 hg4 hown4 x4 z4 hq4 hr hg3 hC3 hC2 hb2 d2 d4 c0 c1 c2 x3 hC hB
          generalize w4.setCell ⟨Q, 3, none⟩ (sl g5 (f'.length + 1) c5) = w5 at *
          have y0 := hC5.q0
          have y1 := hC5.q1
          have y4 := hC5.q4
          have hs5 := hC5.size
          have hq5 : Q < w5.heap.size := by omega
          go_region_with (go_at_call 54; refine (room_any W b cap bm q _ hC5.view.drew hu hl hpl).mono ?_; rintro e w6 ⟨rfl, hb6⟩; have hb56 : Below w5.heap.size w5 w6 := ((Below.refl _ _).drew.trans hb6); have hC6 := hC5.below hb56; have t4 := hC6.q4; have f4 := hC6.z4; have hs6 := hC6.size; have hq6 : Q < w6.heap.size := (by omega))
          all_goals
            obtain ⟨hC7, hB7⟩ := hC6.ended (S + roomAt W q)
            have hr7 : Row (w6.setCell ⟨Q, 4, none⟩ (.int .i64 ((S + roomAt W q : Nat) : Int))) rb ro refs := (hr5.same hb56).block (Below.heap_setCell _ _ _ _ (by dsimp only; omega)) (by simp [World.setCell])
            go_wp2_with fail
            go_roundw
            case rel => exact ⟨i + 1, S + roomAt W q, top + 1, f' ++ [2 * (q : Int)], _, _, by first | rfl | simp, by omega, Hk, ⟨Hroom.out.symm, rfl, Htop.out⟩, HF2, hC7, (hbL5.trans (hb56.mono (by omega))).trans hB7, hr7, hne5⟩
            case measure => simp [intOf]; omega
    · have H : Hid (G = f') := by
        have := hck.out
        rw [List.drop_eq_nil_of_le (by omega)] at this; exact this
      clear hck
      go_wp2_with fail
      go_end0
      have e := H.out
      subst e
      refine ⟨rfl, ⟨vf', ?_⟩, HF.out, hB⟩
      have hC' := hC
      rw [HS.out.1, HS.out.2.1, HS.out.2.2] at hC'
      exact hC'
end Go.Proofs.Ytfmapgbkajlfkaa
