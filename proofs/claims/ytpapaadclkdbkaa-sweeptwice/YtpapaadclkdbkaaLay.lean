/- heap/lay.go: the words ahead, a thing's room, things and rows whose references are turned. -/
import Derived.Test.YtpapaadclkdbkaaLaid
import Derived.Test.YtpapaadclkdbkaaMovePlain
import Derived.Test.YtpapaadclkdbkaaRefReach
namespace Go.Proofs.Ytpapaadclkdbkaa
open Go.RowKit
open Go.Maps (Keyed keyOf_int_mk)

theorem row_two {w : World} {b : Nat} {W : List Int} (h : Row w b 0 W) (h2 : 2 ≤ W.length) : Row w b 0 [wd W 0, wd W 1] := by
  refine ⟨h.lt, fun k hk => ?_, fun k => ?_⟩
  · match k, hk with
    | 0, _ => exact h.cell 0 (by omega)
    | 1, _ => exact h.cell 1 (by omega)
  · match k with
    | 0 => exact h.wf 0
    | 1 => exact h.wf 1
    | k + 2 => show (Lit.int .i64 0).wf = true; decide

set_option maxHeartbeats 1000000 in
theorem vfront_any (W : List Int) (b cap bm : Nat) (w : World) (hv : IsView w b cap bm W) (h2 : 2 ≤ W.length) (hl : W.length ≤ 2000) :
    Calls Try.prog 66 #[viewV b W.length cap bm] w fun e w' => Owned w.heap.size [wd W 0, wd W 1] e w' ∧ Below w.heap.size w w' := by
  have hcap := own_cap hv.own
  unfold maxLen at hcap
  have hrow := row_two hv.row h2
  have hmin : min (2 : Int) (W.length : Int) = 2 := by omega
  have hc2 : (2 : Int) ≤ (cap : Int) := by omega
  have hlt := hv.lt
  go_enter Try.func66, Try.ntmps66
  go_wp2_with (go_at_call 57; refine (clone_any [wd W 0, wd W 1] b 0 _ _ (hrow.alloc _) (by simp) (by simp)).mono ?_; rintro e w1 ⟨⟨g, c, rfl, hg, hown⟩, hb1⟩)
  go_ret
  exact ⟨⟨g, c, rfl, by simp at hg; omega, hown⟩, below_call hb1⟩

theorem takes_any (x : Int) (w : World) (h0 : 0 ≤ x) (h1 : x ≤ 5000) : Calls Try.prog 51 #[.int .i64 x] w fun e w' => e = .returned (.int .i64 (3 + x)) ∧ w' = w := by
  go_enter Try.func51, Try.ntmps51
  go_wp2
  go_ret
  exact ⟨rfl, rfl⟩

theorem room_any (W : List Int) (b cap bm p : Nat) (w : World) (hv : IsView w b cap bm W) (hu : unfit W 2 = none) (hl : W.length ≤ 2000) (hp : p ∈ places W 2) :
    Calls Try.prog 79 #[viewV b W.length cap bm, .int .i64 (2 * (p : Int))] w fun e w' => e = .returned (.int .i64 (roomAt W p : Nat)) ∧ Below w.heap.size w w' := by
  have ho := ref_thing hl hp
  obtain ⟨hp2, hpl, hf, _⟩ := place_fit hu hp
  have hfo := fits_out hf
  have hv1 := hv.alloc (.cells #[sl b W.length cap, .map (some bm)] 54)
  have h2p : 2 * (p : Int) / 2 = (p : Int) := by omega
  have hwf : (Lit.int .i64 (p : Int)).wf = true := by go_wf
  have hsl : slotsAt W p ≤ 60 := by unfold slotsAt; omega
  clear hf
  go_enter Try.func79, Try.ntmps79
  go_wp2_with (first | (go_at_call 31; refine (has_any W b cap bm _ _ hv1).mono ?_; rintro e w1 ⟨rfl, hb1⟩; obtain ⟨bx0, bx1⟩ := box_cells hb1; obtain ⟨n, D, hown, hn, _, hat⟩ := (hv1.same hb1).begun; have hatp := hat p hp; clear hat) | (at_lookup; refine wpList_lookup_own_int _ rfl _ _ 52 rfl 3 3 .i64 key3 ty59 ty3 (zero3 _) bm n D rfl hown _ _ rfl (keyOf_int_mk ty3 hwf) ?_; intro c hat hwc; have hcs : c = (slotsAt W p : Nat) := (by rw [hatp] at hat; simp at hat; exact hat.symm); subst hcs; clear hat hwc) | (go_at_call 51; refine (takes_any _ _ (by omega) (by omega)).mono ?_; rintro e w2 ⟨rfl, hw2⟩; rw [hw2]; clear hw2 w2))
  go_ret
  exact ⟨by unfold roomAt; simp, below_call hb1⟩

/-- A function of one number that is called by its value, with what is bound ahead and what it has captured: what it answers, as long as a world is of a kind that lasts. -/
structure TurnsB (K : Nat) (bs cs : Array Value) (t : Int → Int) (I : World → Prop) : Prop where
  enters : ∀ (args : Array Value) (w : World), Sem.run Try.prog (callFunc K args) w = .ok (.enter K args) w
  lasts : ∀ w w', I w → Below w.heap.size w w' → I w'
  says : ∀ o w, I w → (Lit.int .i64 o).wf = true → Calls Try.prog K (bs ++ #[.int .i64 o] ++ cs) w fun e w' => e = .returned (.int .i64 (t o)) ∧ Below w.heap.size w w'
/-- The same with nothing bound ahead. -/
abbrev Turns (K : Nat) (cs : Array Value) (t : Int → Int) (I : World → Prop) : Prop := TurnsB K #[] cs t I

theorem turn_take {xs : List Int} {t : Int → Int} {i : Nat} (h : i < xs.length) : ((xs.take i).map t ++ List.replicate (xs.length - i) 0).set i (t (wd xs i)) = (xs.take (i + 1)).map t ++ List.replicate (xs.length - (i + 1)) 0 := by
  apply List.ext_getElem
  · simp; omega
  · intro j h1 h2
    simp only [List.getElem_set]
    by_cases e : i = j
    · subst e
      simp only [if_true]
      rw [List.getElem_append_left (by simp; omega)]
      simp [wd, List.getElem?_eq_getElem h]
    · rw [if_neg e]
      by_cases hj : j < i
      · rw [List.getElem_append_left (by simp; omega), List.getElem_append_left (by simp; omega)]; simp
      · rw [List.getElem_append_right (by simp; omega), List.getElem_append_right (by simp; omega)]; simp

theorem own_some {w : World} {g n c i : Nat} {xs : List Int} (h : w.ownsRow 0 3 1 (sl g n c) n (vals xs)) (hi : i < n) : w.cell? ⟨g, i, none⟩ = some (.int .i64 (wd xs i)) := by
  have hl : xs.length = n := by have := h.1; simpa [vals] using this
  subst hl; exact own_cell h hi

set_option maxHeartbeats 4000000 in
theorem turnedAllB_any (K : Nat) (bs cs : Array Value) (t : Int → Int) (I : World → Prop) (T : TurnsB K bs cs t I) (xs : List Int) (rad : Option Addr) (rc : Nat) (w : World) (hI : I w) (hr : RootsAt rad xs w) (hl : xs.length ≤ 5000) :
    Calls Try.prog 38 #[.slice rad xs.length rc, .func (.func K) bs cs] w fun e w' => Owned w.heap.size (xs.map t) e w' ∧ Below w.heap.size w w' := by
  obtain ⟨i0, hi, hz0, hz1, hz2⟩ := info_parts info3
  have HR : Hid (RootsAt rad xs w) := hr
  have hent := T.enters
  clear hr
  go_enter Try.func38, Try.ntmps38
  go_wp2_with (at_make; refine wpList_make_full _ rfl _ _ 22 rfl w.heap.size 3 i0 (.int .i64 0) 1 ty30 hi hz0 hz1 _ _ _ _ xs.length rfl rfl rfl rfl (by rw [hz2]; omega) (by unfold maxLen; omega) (by simp) ?_; intro w1 hown1 hgrow1)
  have hB1 : Below w.heap.size w w1 := (Below.refl _ _).grown hgrow1 (Nat.le_refl _) (fun k hk => by cases hk)
  have hown2 : w1.ownsRow 0 3 1 (sl w.heap.size xs.length xs.length) xs.length (vals ((xs.take 0).map t ++ List.replicate (xs.length - 0) 0)) := by
    have := own_mono (Nat.zero_le _) hown1
    simpa [toList_madeCells_one, vals, Value.cells] using this
  clear hown1 hgrow1
  go_loopw [13] (fun s wr => ∃ (i : Nat), s = .int .i64 i ∧ i ≤ xs.length ∧ wr.ownsRow 0 3 1 (sl w.heap.size xs.length xs.length) xs.length (vals ((xs.take i).map t ++ List.replicate (xs.length - i) 0)) ∧ Below w.heap.size w wr) (fun s _ => xs.length - (intOf s).toNat)
  case atStart => exact ⟨0, rfl, Nat.zero_le _, hown2, hB1⟩
  case round =>
    clear hown2 hB1
    obtain ⟨i, rfl, hix, hown, hB⟩ := hrel
    have hIr := T.lasts _ _ hI hB
    by_cases hlt : i < xs.length
    · obtain ⟨rb, ro, hrad, hrr⟩ := HR.out (by omega)
      subst hrad
      have hcr := (hrr.same hB).cell i hlt
      have hwf := hrr.wf i
      have hlo := own_lt hown
      have hii : (i : Int) < (xs.length : Int) := by omega
      have hw1 := wrap_id (x := (i : Int) + 1) (by omega) (by omega)
      go_wp2_with (first | (refine (T.says _ _ hIr hwf).mono ?_; rintro e w2 ⟨rfl, hb2⟩; have hown' := ownsRow_below hown hb2 hlo; have hcw := own_some hown' (i := i) (by omega); have hfw := hown'.frozenAt i))
      have hst := (hown'.stored i (.int .i64 (t (wd xs i)))).1
      rw [show ∀ ys : List Int, (vals ys).set i (.int .i64 (t (wd xs i))) = vals (ys.set i (t (wd xs i))) from fun ys => by simp [vals, List.map_set], turn_take hlt] at hst
      have hBn : Below w.heap.size w (w2.setCell ⟨w.heap.size, i, none⟩ (.int .i64 (t (wd xs i)))) := (hB.trans (hb2.mono hB.size)).setCell (Nat.le_refl _) _
      go_roundw
      case rel => exact ⟨i + 1, by first | rfl | simp, by omega, hst, hBn⟩
      case measure => simp [intOf]; omega
    · have he : i = xs.length := by omega
      subst he
      go_wp2_with fail
      go_ret
      refine ⟨⟨w.heap.size, xs.length, by simp, Nat.le_refl _, ?_⟩, hB⟩
      simpa using hown
theorem turnedAll_any (K : Nat) (cs : Array Value) (t : Int → Int) (I : World → Prop) (T : Turns K cs t I) (xs : List Int) (rad : Option Addr) (rc : Nat) (w : World) (hI : I w) (hr : RootsAt rad xs w) (hl : xs.length ≤ 5000) :
    Calls Try.prog 38 #[.slice rad xs.length rc, .func (.func K) #[] cs] w fun e w' => Owned w.heap.size (xs.map t) e w' ∧ Below w.heap.size w w' := turnedAllB_any K #[] cs t I T xs rad rc w hI hr hl
end Go.Proofs.Ytpapaadclkdbkaa
