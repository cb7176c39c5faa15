/- thingsFault: what is wrong first with classes, hashs and slots. -/
import Derived.Test.YthdhaokjibfjdaaFindX
import Derived.Deep.RegionWith
import Derived.Deep.CutRange
import Derived.Deep.DeepCutAuto
namespace Go.Proofs.Ythdhaokjibfjdaa
open Go.RowKit
open Go.Maps (Keyed keyOf_int_mk)

/-- The hashs of the things at those places. -/
def hashs (W : List Int) (ps : List Nat) : List Int := ps.map (fun q => wd W (q + 1))
theorem hashs_snoc (W : List Int) (ps : List Nat) (p : Nat) : hashs W (ps ++ [p]) = hashs W ps ++ [wd W (p + 1)] := by simp [hashs]

/-- The map in block bs has those hashs. -/
def Seen (w : World) (bs n : Nat) (hs : List Int) (D : DataW Unit) : Prop :=
  w.ownsMap Try.prog 3 (plainElem Try.prog 3) bs n D ∧ n ≤ hs.length ∧ ∀ h : Int, Go.Maps.has D (.int .i64 h) = hs.contains h

theorem Seen.put {w w' : World} {bs n : Nat} {hs : List Int} {h : Int} {z : Int} {D : DataW Unit} (hS : Seen w bs n hs D) (ho : w'.ownsMap Try.prog 3 (plainElem Try.prog 3) bs (n + 1) (D.put (.int .i64 h) (.lit (.int .i64 z)))) :
    Seen w' bs (n + 1) (hs ++ [h]) (D.put (.int .i64 h) (.lit (.int .i64 z))) := by
  refine ⟨ho, by have := hS.2.1; simp; omega, fun x => ?_⟩
  by_cases e : x = h
  · subst e
    rw [Go.Maps.has_put_same hS.1.isMap (show WideAt.IsKeyLit (.int .i64 _) from trivial)]; simp
  · rw [Go.Maps.has_put_other (fun he => e (by simp at he; omega)), hS.2.2 x]
    simp [e]
theorem Seen.below {w w' : World} {bs n B : Nat} {hs : List Int} {D : DataW Unit} (h : Seen w bs n hs D) (hb : Below B w w') (hB : bs < B) : Seen w' bs n hs D := ⟨ownsMap_below h.1 hb hB, h.2⟩
theorem places_length {W : List Int} : ∀ (n p : Nat), W.length - p ≤ n → (places W p).length ≤ n
  | 0, p, hn => by rw [places_end (by omega)]; simp
  | n + 1, p, hn => by
    by_cases h : p < W.length
    · rw [places_in h]
      have := places_length (W := W) n (nextAt W p) (by simp [nextAt]; omega)
      simp; omega
    · rw [places_end h]; simp

theorem fault_frame {w w4 wr : World} {a c x y : Value} {t t' : TypeId} (hb : Below (((w.alloc (.cells #[a, c] t)).alloc (.cells #[x, y] t')).alloc (.map #[] 0)).heap.size (((w.alloc (.cells #[a, c] t)).alloc (.cells #[x, y] t')).alloc (.map #[] 0)) w4)
    (hg : w4.grownBy wr (some (w.heap.size + 1 + 1))) :
    (wr.cell? ⟨w.heap.size, 0, none⟩ = some a ∧ wr.cell? ⟨w.heap.size, 1, none⟩ = some c) ∧ wr.cell? ⟨w.heap.size + 1, 0, none⟩ = some x ∧ wr.cell? ⟨w.heap.size + 1, 1, none⟩ = some y ∧
      wr.frozen? ⟨w.heap.size + 1, 0, none⟩ = false ∧ wr.frozen? ⟨w.heap.size + 1, 1, none⟩ = false ∧ w.heap.size + 3 ≤ wr.heap.size ∧ Below w.heap.size w wr := by
  have hs4 : w.heap.size + 3 ≤ w4.heap.size := by have := hb.size; simp at this; omega
  have hs := hg.size
  have k0 : wr.heap[w.heap.size]? = ((w.alloc (.cells #[a, c] t)).alloc (.cells #[x, y] t')).heap[w.heap.size]? :=
    ((hg.block _ (by omega) (by simp; omega)).trans (hb.block _ (by simp; omega))).trans (Below.heap_alloc _ _ _ (by simp; omega))
  have k1 : wr.heap[w.heap.size + 1]? = ((w.alloc (.cells #[a, c] t)).alloc (.cells #[x, y] t')).heap[w.heap.size + 1]? :=
    ((hg.block _ (by omega) (by simp)).trans (hb.block _ (by simp))).trans (Below.heap_alloc _ _ _ (by simp))
  refine ⟨⟨?_, ?_⟩, ?_, ?_, ?_, ?_, by omega, ?_⟩
  · rw [World.cell?_of_block (a := ⟨w.heap.size, 0, none⟩) k0]; simp
  · rw [World.cell?_of_block (a := ⟨w.heap.size, 1, none⟩) k0]; simp
  · rw [World.cell?_of_block (a := ⟨w.heap.size + 1, 0, none⟩) k1]; simp
  · rw [World.cell?_of_block (a := ⟨w.heap.size + 1, 1, none⟩) k1]; simp
  · rw [World.frozen?_of_block (a := ⟨w.heap.size + 1, 0, none⟩) k1]; simp
  · rw [World.frozen?_of_block (a := ⟨w.heap.size + 1, 1, none⟩) k1]; simp
  · have h3 : Below w.heap.size w (((w.alloc (.cells #[a, c] t)).alloc (.cells #[x, y] t')).alloc (.map #[] 0)) := (((Below.refl _ _).alloc (Nat.le_refl _) _).alloc (by simp) _).alloc (by simp; omega) _
    exact (h3.trans (hb.mono (by simp; omega))).grown hg (by omega) (fun k hk => by simp at hk; omega)

theorem drop_at {ps : List Nat} {i : Nat} (h : i < ps.length) : ps.drop i = ps.getD i 0 :: ps.drop (i + 1) := by
  rw [List.drop_eq_getElem_cons h]; simp [List.getElem?_eq_getElem h]
theorem take_at {ps : List Nat} {i : Nat} (h : i < ps.length) : ps.take (i + 1) = ps.take i ++ [ps.getD i 0] := by
  rw [List.take_succ_eq_append_getElem h]; simp [List.getElem?_eq_getElem h]
theorem mem_at {ps : List Nat} {i : Nat} (h : i < ps.length) : ps.getD i 0 ∈ ps := by
  simp [List.getElem?_eq_getElem h]
theorem ref_at {ps : List Nat} {i : Nat} (h : i < ps.length) : wd (refs ps) i = 2 * ((ps.getD i 0 : Nat) : Int) := by
  simp [wd, refs, List.getElem?_eq_getElem h]

theorem IsView.drew {w : World} {b cap bm : Nat} {W : List Int} (h : IsView w b cap bm W) : IsView w.drew b cap bm W := h.same (Below.refl _ _).drew

set_option maxHeartbeats 4000000 in
theorem thingsFault_any (W : List Int) (b cap bm : Nat) (w : World) (hv : IsView w b cap bm W) (hu : unfit W 2 = none) (hl : W.length ≤ 2000) (h2 : 2 ≤ W.length) :
    Calls Try.prog 58 #[viewV b W.length cap bm] w fun e w' => e = .returned (.agg #[.int .i64 (faultOf W [] (places W 2)).1, .int .i64 (faultOf W [] (places W 2)).2]) ∧ Below w.heap.size w w' := by
  have hmm := @run_makeMap Try.prog
  have hblt := hv.lt
  generalize hF : faultOf W [] (places W 2) = F
  have HF : Hid (faultOf W [] (places W 2) = F) := hF
  clear hF
  go_enter Try.func58, Try.ntmps58
  go_wp2_with (first | (go_at_call 26; refine (things_any W b cap bm _ (((hv.alloc _).alloc _).alloc _) hu hl).mono ?_; rintro e w4 ⟨⟨ad, c, rfl, hown⟩, hb4⟩))
  generalize hps : places W 2 = ps at *
  have Hps : Hid (places W 2 = ps) := hps
  clear hps
  have hpsl : ps.length ≤ 2000 := by
    have h1 := places_length (W := W) (W.length - 2) 2 (Nat.le_refl _)
    rw [Hps.out] at h1
    omega
  rw [refs_length] at hown ⊢
  go_loopw [16] (fun s wr => ∃ (i n : Nat) (D : DataW Unit), s = .int .i64 i ∧ i ≤ ps.length ∧ Hid (F = faultOf W (hashs W (ps.take i)) (ps.drop i)) ∧ Seen wr (w.heap.size + 1 + 1) n (hashs W (ps.take i)) D ∧ w4.grownBy wr (some (w.heap.size + 1 + 1))) (fun s _ => ps.length - (intOf s).toNat)
  case atStart => exact ⟨0, 0, .map [], rfl, Nat.zero_le _, HF.out.symm, ⟨ownsMap_below (by have := World.ownsMap_made (H := Unit) ((w.alloc (Obj.cells #[sl b W.length cap, Value.map (some bm)] 46)).alloc (Obj.cells #[Value.int IntKind.i64 0, Value.int IntKind.i64 0] 33)) Try.prog 3 (plainElem Try.prog 3); simpa using this) hb4 (by simp), Nat.zero_le _, fun _ => rfl⟩, World.grownBy.refl _ _⟩
  case round =>
    rename_i wr
    obtain ⟨i, n, D, rfl, hi, hck, hseen, hg⟩ := hrel
    obtain ⟨⟨bx0, bx1⟩, rs0, rs1, rf0, rf1, hsz, hbw⟩ := fault_frame hb4 hg
    have hv1 := hv.same hbw
    by_cases hlt : i < ps.length
    · obtain ⟨p, hp⟩ : ∃ p, p = ps.getD i 0 := ⟨_, rfl⟩
      have hmem : p ∈ places W 2 := by rw [Hps.out, hp]; exact mem_at hlt
      obtain ⟨hp2, hpl, hf, hun⟩ := place_fit hu hmem
      have hfo := fits_out hf
      have hkept : wr.ownsRow 0 3 1 (.slice ad ps.length c) ps.length (vals (refs ps)) := own_mono (Nat.zero_le _) (hown.kept hg (by
        rcases hown.2 with ⟨h0, _⟩ | ⟨g, cap', cur, h0, hgb, _⟩
        · exact Or.inl (by rw [h0]; rfl)
        · refine Or.inr ?_
          rw [h0]
          simp [Value.ownBlock] at hgb ⊢
          omega))
      obtain ⟨g, cap', hsh, _, hown2⟩ := own_shape hkept (fun e => by injection e with _ h0 _; omega)
      simp only [Value.slice.injEq, true_and] at hsh
      obtain ⟨rfl, rfl⟩ := hsh
      have hglt := own_lt hown2
      have hci : wr.cell? ⟨g, i, none⟩ = some (.int .i64 (2 * (p : Int))) := by
        rw [hp, ← ref_at hlt]
        have hx := hown2
        rw [← refs_length ps] at hx
        exact own_cell hx (by rw [refs_length]; exact hlt)
      have hcp := hv1.cell (k := p) (by omega)
      have Hck : Hid (F = faultOf W (hashs W (ps.take i)) (p :: ps.drop (i + 1))) := by have := hck.out; rw [drop_at hlt, ← hp] at this; exact this
      have Hsn : Hid (hashs W (ps.take (i + 1)) = hashs W (ps.take i) ++ [wd W (p + 1)]) := by have := take_at hlt; rw [← hp] at this; unfold Hid; rw [this, hashs_snoc]
      have hip : (p : Int) < (W.length : Int) := by omega
      have hip1 : (p : Int) + 1 < (W.length : Int) := by omega
      have hwp : (Lit.int .i64 (p : Int)).wf = true := by go_wf
      have h2p : 2 * (p : Int) / 2 = (p : Int) := by omega
      clear hck hp hkept hown2 hf hun
      go_upto_region 6 with fail
      have hwr := wrap_id (x := (p : Int)) (by omega) (by omega)
      go_cut [30] from 17 to 72 (fun s30 wx => s30 = .bool (!nilB W (wd W p)) ∧ Below wr.heap.size wr wx)
      case first =>
        go_region_with ((go_at_call 60; refine (isNil_any W b cap bm _ _ hv1.drew).mono ?_; rintro e w5 ⟨rfl, hb5⟩))
        all_goals
          go_wp2_with fail
          go_meet
          case rel => exact ⟨rfl, (Below.refl _ _).drew.trans hb5⟩
      case rest =>
        obtain ⟨rfl, hb5⟩ := hcut
        clear bx0 bx1 rs0 rs1 rf0 rf1 hcp hci hv1
        have hg5 := hg.trans (grown_of_below hb5)
        obtain ⟨⟨bx0, bx1⟩, rs0, rs1, rf0, rf1, hsz5, hbw5⟩ := fault_frame hb4 hg5
        have hv5 := hv.same hbw5
        have hs5 := hseen.below hb5 hseen.1.lt
        cases hnil : nilB W (wd W p) with
        | false =>
          have H : Hid (F = (3, (p : Int))) := by have := Hck.out; rw [fault_kind hnil] at this; exact this
          clear Hck
          go_wp2_with fail
          exact bodyPost_ret (v := .agg #[.int .i64 3, .int .i64 p]) (by simp [results, Try.results58, go_sem, rs0, rs1]) rfl ⟨by rw [H.out], (hbw5.setCell (by simp) _).setCell (by simp) _⟩
        | true =>
          have hcp1 := hv5.cell (k := p + 1) (by omega)
          have hcn := hv5.cell (k := 1) (by omega)
          have hblt5 := hv5.lt
          have hwh := hv5.wf (p + 1)
          have hub1 := hv5.row.ub (p + 1)
          have hlb1 := hv5.row.lb (p + 1)
          obtain ⟨hso, hsn, hsh⟩ := hs5
          have hh := hsh (wd W (p + 1))
          have Hs5 : Hid (Seen wc (w.heap.size + 1 + 1) n (hashs W (ps.take i)) D) := ⟨hso, hsn, hsh⟩
          clear hsh
          cases ht : twiceB W (hashs W (ps.take i)) p with
          | true =>
            have H : Hid (F = (5, (p : Int))) := by have := Hck.out; rw [fault_twice hnil ht] at this; exact this
            have hway : Go.Maps.has D (.int .i64 (wd W (p + 1))) = true ∨ (Go.Maps.has D (.int .i64 (wd W (p + 1))) = false ∧ wd W (p + 1) < 1) ∨ (Go.Maps.has D (.int .i64 (wd W (p + 1))) = false ∧ 1 ≤ wd W (p + 1) ∧ wd W 1 ≤ wd W (p + 1)) := by
              rw [hh]
              unfold twiceB at ht
              cases hc : (hashs W (ps.take i)).contains (wd W (p + 1)) with
              | true => exact Or.inl rfl
              | false =>
                rw [hc] at ht
                simp at ht
                rcases ht with ht | ht
                · exact Or.inr (Or.inl ⟨rfl, ht⟩)
                · by_cases h1 : wd W (p + 1) < 1
                  · exact Or.inr (Or.inl ⟨rfl, h1⟩)
                  · exact Or.inr (Or.inr ⟨rfl, by omega, ht⟩)
            clear Hck hh ht
            rcases hway with hw1 | ⟨hw1, hw2⟩ | ⟨hw1, hw2, hw3⟩
            all_goals
              go_wp2_with (at_lookup; refine wpList_lookup_own_ok_int _ rfl _ _ 44 rfl 3 3 .i64 key3 ty59 ty3 (zero3 _) (w.heap.size + 1 + 1) n D rfl hso _ _ rfl (keyOf_int_mk ty3 hwh) ?_; intro c hat hwc; clear hat hwc)
              exact bodyPost_ret (v := .agg #[.int .i64 5, .int .i64 p]) (by simp [results, Try.results58, go_sem, rs0, rs1]) rfl ⟨by rw [H.out], (hbw5.setCell (by simp) _).setCell (by simp) _⟩
          | false =>
            have hw1 : Go.Maps.has D (.int .i64 (wd W (p + 1))) = false ∧ 1 ≤ wd W (p + 1) ∧ wd W (p + 1) < wd W 1 := by
              rw [hh]
              unfold twiceB at ht
              simp only [Bool.or_eq_false_iff, decide_eq_false_iff_not] at ht
              exact ⟨ht.1, by omega, by omega⟩
            have Ht : Hid (twiceB W (hashs W (ps.take i)) p = false) := ht
            have hnb : n ≤ 2000 := by
              have h1 := places_length (W := W) (W.length - 2) 2 (Nat.le_refl _)
              rw [Hps.out] at h1
              have h3 : (hashs W (ps.take i)).length ≤ ps.length := by simp [hashs]; omega
              omega
            obtain ⟨hw1, hw2, hw3⟩ := hw1
            clear hh ht
            go_upto_region 13 with (first | (at_lookup; refine wpList_lookup_own_ok_int _ rfl _ _ 44 rfl 3 3 .i64 key3 ty59 ty3 (zero3 _) (w.heap.size + 1 + 1) n D rfl hso _ _ rfl (keyOf_int_mk ty3 hwh) ?_; intro c hat hwc; clear hat hwc) | (at_mapUpdate; refine wpList_mapUpdate_own _ rfl _ _ _ 44 rfl 3 3 key3 ty59 (plainElem Try.prog 3) (w.heap.size + 1 + 1) n D rfl hso (by unfold maxLen; omega) _ _ _ rfl rfl (keyOf_int_mk ty3 hwh) _ [] (plainElem_int ty3 hwp) ?_; intro w6 hm6 hg6))
            have hs6 := Seen.put Hs5.out hm6
            have hg7 := hg5.trans hg6
            clear bx0 bx1 rs0 rs1 rf0 rf1
            obtain ⟨⟨bx0, bx1⟩, rs0, rs1, rf0, rf1, hsz6, hbw6⟩ := fault_frame hb4 hg7
            have hv6 := hv.same hbw6
            clear hw1 hw2 hw3 hm6 Hs5 hso hcp1 hcn
            cases hbs : badSlot W (formAt W p) (p + 3) (slotsAt W p) with
            | some k =>
              have H : Hid (F = (3, (k : Int))) := by have := Hck.out; rw [fault_slot hnil Ht.out hbs] at this; exact this
              clear Hck
              go_wp2_with (go_at_call 72; refine (wrongSlot_any W b cap bm p _ hv6 hu hl hmem).mono ?_; rw [hbs]; rintro e w7 ⟨rfl, hb7⟩; have hg8 := hg7.trans (grown_of_below hb7); obtain ⟨⟨cx0, cx1⟩, ss0, ss1, sf0, sf1, hsz7, hbw7⟩ := fault_frame hb4 hg8; unfold slotAns)
              exact bodyPost_ret (v := .agg #[.int .i64 3, .int .i64 k]) (by simp [results, Try.results58, go_sem, ss0, ss1]) rfl ⟨by rw [H.out], (hbw7.setCell (by simp) _).setCell (by simp) _⟩
            | none =>
              have H : Hid (F = faultOf W (hashs W (ps.take (i + 1))) (ps.drop (i + 1))) := by have := Hck.out; rw [fault_next hnil Ht.out hbs] at this; unfold Hid; rw [Hsn.out]; exact this
              clear Hck
              go_wp2_with (go_at_call 72; refine (wrongSlot_any W b cap bm p _ hv6 hu hl hmem).mono ?_; rw [hbs]; rintro e w7 ⟨rfl, hb7⟩; have hg8 := hg7.trans (grown_of_below hb7); obtain ⟨⟨cx0, cx1⟩, ss0, ss1, sf0, sf1, hsz7, hbw7⟩ := fault_frame hb4 hg8; unfold slotAns)
              go_roundw
              case rel => exact ⟨i + 1, n + 1, _, by first | rfl | simp, by omega, H, by rw [Hsn.out]; exact hs6.below hb7 hs6.1.lt, hg8⟩
              case measure => simp [intOf]; omega
    · have H : Hid (F = (0, 0)) := by have := hck.out; rw [List.drop_of_length_le (by omega)] at this; exact this
      clear hck
      go_wp2_with fail
      exact bodyPost_ret (v := .agg #[.int .i64 0, .int .i64 0]) (by simp [results, Try.results58, go_sem, rs0, rs1]) rfl ⟨by rw [H.out], (hbw.setCell (by simp) _).setCell (by simp) _⟩
end Go.Proofs.Ythdhaokjibfjdaa
