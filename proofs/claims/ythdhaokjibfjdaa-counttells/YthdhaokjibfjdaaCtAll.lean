/- Package count: all. -/
import Derived.Test.YthdhaokjibfjdaaCtDo
namespace Go.Proofs.Ythdhaokjibfjdaa
open Go.RowKit
open Go.Maps (Keyed keyOf_int_mk)

/-- A function that asks of a number. -/
structure AsksC (K : Nat) (p : Int → Bool) : Prop where
  enters : ∀ (args : Array Value) (w : World), Sem.run Try.prog (callFunc K args) w = .ok (.enter K args) w
  says : ∀ (x : Int) (w : World), Calls Try.prog K #[.int .i64 x] w fun e w' => e = .returned (.bool (p x)) ∧ w' = w
theorem asksZero : AsksC 25 (fun x => decide (x = 0)) := by
  refine ⟨fun args w => by kernel_rfl, fun x w => ?_⟩
  have hd : (x == 0) = decide (x = 0) := by rw [Bool.eq_iff_iff]; simp
  go_enter Try.func25, Try.ntmps25
  go_wp2
  go_ret
  exact ⟨by rw [← hd]; rfl, rfl⟩
theorem asksMore : AsksC 50 (fun x => decide (0 < x)) := by
  refine ⟨fun args w => by kernel_rfl, fun x w => ?_⟩
  go_enter Try.func50, Try.ntmps50
  go_wp2
  go_ret
  exact ⟨rfl, rfl⟩
theorem ctplaces_few {W : List Int} (hl : W.length ≤ 2000) : (places W 2).length ≤ 2000 := by
  have h4 := (places_nodup (W := W) _ 2 (Nat.le_refl _)).length_le_of_subset (l₂ := List.range W.length) fun p hp => List.mem_range.2 (place_ge hp).2
  rw [List.length_range] at h4; omega

set_option maxHeartbeats 4000000 in
theorem ctall_any {K : Nat} {p : Int → Bool} (A : AsksC K p) (W : List Int) (b cap bm mm T : Nat) (c : Int → Int) (w : World) (hv : IsView w b cap bm W) (hu : unfit W 2 = none) (hl : W.length ≤ 2000) (hM : CMap w mm T c) :
    Calls Try.prog 24 #[tallyV b W.length cap bm mm, .func (.func K) #[] #[]] w fun e w' => OwnedAny w.heap.size (refs ((places W 2).filter fun q : Nat => p (c (2 * (q : Int))))) e w' ∧ Below w.heap.size w w' := by
  obtain ⟨i0, hi, hz0, hz1, hz2⟩ := info_parts info3
  have hent := A.enters
  have hml := hM.lt
  have hpf := ctplaces_few hl
  generalize hG : ((places W 2).filter fun q : Nat => p (c (2 * (q : Int)))) = G
  have HG : Hid (((places W 2).filter fun q : Nat => p (c (2 * (q : Int)))) = G) := hG
  clear hG
  go_enter Try.func24, Try.ntmps24
  go_wp2_with (first | (go_at_call 26; refine (things_any W b cap bm _ (hv.alloc _) hu hl).mono ?_; rintro e w1 ⟨⟨tad, tc, rfl, hown1⟩, hb1⟩))
  have hb01 := below_call hb1
  obtain ⟨t0, t1, t2, hz1'⟩ := box3 hb1
  obtain ⟨n, D, hD0, hDn, hDa⟩ := hM
  have hD1 := ownsMap_below hD0 hb01 hml
  have hln : (refs (places W 2)).length = (places W 2).length := refs_length _
  have hown1' : w1.ownsRow (w.heap.size + 1) 3 1 (.slice tad (refs (places W 2)).length tc) (refs (places W 2)).length (vals (refs (places W 2))) := by simpa using hown1
  have HO : Hid (w1.ownsRow (w.heap.size + 1) 3 1 (.slice tad (refs (places W 2)).length tc) (refs (places W 2)).length (vals (refs (places W 2)))) := hown1'
  have HL : Hid ((refs (places W 2)).length = (places W 2).length) := hln
  have HDa : Hid (∀ o : Int, D.atKey (.int .i64 o) (.lit (.int .i64 0)) = .lit (.int .i64 (c o))) := hDa
  clear hown1 hown1' hln hD0 hDa hb1
  go_loopw [5, 12] (fun v s wr => ∃ (i : Nat) (pre : List Nat), s = .int .i64 i ∧ i ≤ (refs (places W 2)).length ∧ Hid (G = pre ++ ((places W 2).drop i).filter fun q : Nat => p (c (2 * (q : Int)))) ∧ pre.length ≤ i ∧ wr.ownsRow w1.heap.size 3 1 v pre.length (vals (refs pre)) ∧ Below w1.heap.size w1 wr) (fun _ s _ => (refs (places W 2)).length - (intOf s).toNat)
  case atStart => exact ⟨0, [], rfl, Nat.zero_le _, HG.out.symm, Nat.zero_le _, World.ownsRow_nil _ _ _ _, Below.refl _ _⟩
  case round =>
    obtain ⟨i, pre, rfl, hi', HK, hpre, hown, hB⟩ := hrel
    by_cases hlt : i < (refs (places W 2)).length
    · have hii : (i : Int) < ((refs (places W 2)).length : Int) := by omega
      have hi2 : i < (places W 2).length := by have := HL.out; omega
      obtain ⟨g, cg, hsh, hge, hown0⟩ := own_shape HO.out (fun e => by injection e with _ h1 _; omega)
      simp only [Value.slice.injEq, true_and] at hsh
      obtain ⟨rfl, rfl⟩ := hsh
      have hcl := own_cell hown0 hlt
      have hgl := own_lt hown0
      have hcw := through hB hcl hgl
      have hgw : g < wr.heap.size := Nat.lt_of_lt_of_le hgl hB.size
      have hmem : (places W 2)[i] ∈ places W 2 := List.getElem_mem hi2
      have hwdi : wd (refs (places W 2)) i = 2 * ((places W 2)[i] : Int) := by
        unfold wd refs; rw [List.getD_eq_getElem?_getD, List.getElem?_map, List.getElem?_eq_getElem hi2]; rfl
      have hpg := (place_ge hmem).2
      rw [hwdi] at hcw
      have x0 := through hB t0 hz1'
      have x1 := through hB t1 hz1'
      have x2 := through hB t2 hz1'
      have hzb := World.block_lt_of_cell? _ _ x0
      have hD := ownsMap_below hD1 hB (by have := hb01.size; omega)
      have hav := HDa.out (2 * ((places W 2)[i] : Int))
      have hwp1 := wrap_id (x := (i : Int) + 1) (by omega) (by omega)
      have HK' : Hid (G = pre ++ (if p (c (2 * ((places W 2)[i] : Int))) = true then [(places W 2)[i]] else []) ++ ((places W 2).drop (i + 1)).filter fun q : Nat => p (c (2 * (q : Int)))) := by
        have := HK.out
        rw [List.drop_eq_getElem_cons hi2, List.filter_cons] at this
        show _ = _
        rw [this]
        split <;> simp
      clear HK hcl hwdi hmem
      generalize (places W 2)[i] = q at *
      have hwf : (Lit.int .i64 (2 * (q : Int))).wf = true := by go_wf
      cases hx : p (c (2 * (q : Int))) with
      | true =>
        rw [hx, if_pos rfl] at HK'
        generalize c (2 * (q : Int)) = X at *
        go_wp2_with (first | (at_lookup; refine wpList_lookup_own_int _ rfl _ _ 44 rfl 3 3 .i64 key3 ty59 ty3 (zero3 _) mm n D rfl hD _ _ rfl (keyOf_int_mk ty3 hwf) ?_; intro y hat hwc; have hcs : y = X := (by rw [hav] at hat; simp at hat; exact hat.symm); subst hcs; clear hat hwc) | (refine (A.says _ _).mono ?_; rw [hx]; rintro e w3 ⟨rfl, hw3⟩; rw [hw3]; clear hw3 w3) | (at_builtin; refine wpList_append_where rfl (.tmp 22) (.tmp 24) rfl w1.heap.size pre.length 1 _ (.int .i64 (2 * (q : Int))) (vals (refs pre)) rfl (hown.alloc _) ⟨wr.heap.size, 0, none⟩ rfl (cell_one_new _ _ _) rfl (by have := HL.out; omega) (by have := hB.size; simp; omega) ?_; intro v' w4 hown4 hg4 hw4))
        have hsz4 := hg4.size
        have hB4 : Below w1.heap.size w1 w4 := (hB.alloc hB.size _).grown hg4 (by have := hB.size; simp; omega) (fun k hk => (hown.lt k hk).1)
        go_roundw
        case rel => exact ⟨i + 1, pre ++ [q], by first | rfl | simp, by omega, HK', by simp; omega, by rw [refs_snoc, List.length_append]; exact hown4, hB4⟩
        case measure => simp [intOf]; omega
      | false =>
        rw [hx, if_neg (by decide), List.append_nil] at HK'
        generalize c (2 * (q : Int)) = X at *
        go_wp2_with (first | (at_lookup; refine wpList_lookup_own_int _ rfl _ _ 44 rfl 3 3 .i64 key3 ty59 ty3 (zero3 _) mm n D rfl hD _ _ rfl (keyOf_int_mk ty3 hwf) ?_; intro y hat hwc; have hcs : y = X := (by rw [hav] at hat; simp at hat; exact hat.symm); subst hcs; clear hat hwc) | (refine (A.says _ _).mono ?_; rw [hx]; rintro e w3 ⟨rfl, hw3⟩; rw [hw3]; clear hw3 w3))
        go_roundw
        case rel => exact ⟨i + 1, pre, by first | rfl | simp, by omega, HK', by omega, hown, hB⟩
        case measure => simp [intOf]; omega
    · have hii : ¬ (i : Int) < ((refs (places W 2)).length : Int) := by omega
      have HE : Hid (G = pre) := by
        have := HK.out
        rw [List.drop_eq_nil_of_le (by have := HL.out; omega)] at this
        show _ = _
        rw [this]; simp
      clear HK
      go_wp2_with fail
      go_ret
      rw [HE.out]
      refine ⟨owned_any (refs_length pre).symm (own_mono hb01.size hown), hb01.trans (hB.mono hb01.size)⟩
end Go.Proofs.Ythdhaokjibfjdaa
