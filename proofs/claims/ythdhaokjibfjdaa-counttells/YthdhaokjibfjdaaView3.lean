/- Clone, Things: what a view hands out. -/
import Derived.Test.YthdhaokjibfjdaaView2
namespace Go.Proofs.Ythdhaokjibfjdaa
open Go.RowKit
open Go.Maps (Keyed keyOf_int_mk)

/-- Numbers as values. -/
abbrev vals (xs : List Int) : List Value := xs.map (Value.int .i64)

theorem own_shape {w : World} {B n : Nat} {v : Value} {xs : List Value} (h : w.ownsRow B 3 1 v n xs) (hv : v ≠ .slice none 0 0) : ∃ g cap, v = sl g n cap ∧ B ≤ g ∧ w.ownsRow 0 3 1 (sl g n cap) n xs := by
  obtain ⟨h1, h2⟩ := h
  rcases h2 with ⟨h2, _⟩ | ⟨g, cap, cur, rfl, hg, hh, r⟩
  · exact absurd h2 hv
  · exact ⟨g, cap, rfl, hg, h1, Or.inr ⟨g, cap, cur, rfl, Nat.zero_le _, hh, r⟩⟩

/-- A call that answers those numbers in memory of its own, from block B on. -/
def Owned (B : Nat) (xs : List Int) (e : Ending) (w : World) : Prop := ∃ g cap, e = .returned (sl g xs.length cap) ∧ B ≤ g ∧ w.ownsRow 0 3 1 (sl g xs.length cap) xs.length (vals xs)

theorem row_news {w : World} {b off : Nat} {xs : List Int} (h : Row w b off xs) : ∀ j u, (vals xs)[j]? = some u → w.cell? ((⟨b, off, none⟩ : Addr).add j) = some u := by
  intro j u hj
  have hlt : j < xs.length := by
    have := (List.getElem?_eq_some_iff.1 hj).1
    simpa using this
  have hc := h.cell j hlt
  simp [List.getElem?_map, List.getElem?_eq_getElem hlt] at hj
  subst hj
  have e : (⟨b, off, none⟩ : Addr).add j = ⟨b, off + j, none⟩ := by
    unfold Addr.add
    split
    · rename_i h0; rw [h0]; rfl
    · rfl
  rw [e, hc]
  simp [wd, List.getElem?_eq_getElem hlt]

theorem own_reads {w : World} {g cap : Nat} {xs : List Int} (h : w.ownsRow 0 3 1 (sl g xs.length cap) xs.length (vals xs)) (hw : ∀ k, (Lit.int .i64 (wd xs k)).wf = true) : Row w g 0 xs :=
  ⟨own_lt h, fun k hk => by rw [Nat.zero_add]; exact own_cell h hk, hw⟩

theorem clone_any (xs : List Int) (b off cap : Nat) (w : World) (hr : Row w b off xs) (h0 : 0 < xs.length) (hl : xs.length ≤ 2000) :
    Calls Try.prog 33 #[.slice (some ⟨b, off, none⟩) xs.length cap] w fun e w' => Owned w.heap.size xs e w' ∧ Below w.heap.size w w' := by
  obtain ⟨i0, hi, hz0, hz1, hz2⟩ := info_parts info3
  have hlt := hr.lt
  have he : (binOp .eql 22 (.slice (some ⟨b, off, none⟩) xs.length cap) (.slice none 0 0)).run Try.prog w = .ok (.bool false) w := Lib.run_eql_slice_nil w 22 3 (some ⟨b, off, none⟩) xs.length cap 0 0 ty30
  go_enter Try.func33, Try.ntmps33
  go_wp2_with (first | (at_builtin; refine wpList_append_own _ rfl _ _ 22 rfl w.heap.size 3 i0 (.int .i64 0) 1 8 ty30 hi hz0 hz1 hz2 rfl (by decide) (sl w.heap.size 0 0) 0 [] rfl (World.ownsRow_lit w #[] 0 (Nat.le_refl _) (Nat.zero_le _) rfl) ⟨b, off, none⟩ xs.length cap (vals xs) rfl (by simp) (row_news (hr.alloc _)) (ints_oneCell _ _) (by unfold maxLen; omega) (by omega) (by simp) ?_; intro v' w1 hown' hgrow hnil))
  simp only [Nat.zero_add, List.nil_append] at hown'
  obtain ⟨g, cap', rfl, hg, hown⟩ := own_shape hown' (fun e => by have := (hnil.1 e).1; cases this)
  go_ret
  exact ⟨⟨g, cap', rfl, hg, hown⟩, ((Below.refl _ _).alloc (Nat.le_refl _) _).grown hgrow (by simp) (fun k hk => by simp [Value.ownBlock] at hk; omega)⟩

theorem clone_none (ad : Option Addr) (cap : Nat) (w : World) :
    Calls Try.prog 33 #[.slice ad 0 cap] w fun e w' => (∃ ad' c', e = .returned (.slice ad' 0 c')) ∧ Below w.heap.size w w' := by
  obtain ⟨i0, hi, hz0, hz1, hz2⟩ := info_parts info3
  cases ad with
  | none =>
    have he : (binOp .eql 22 (.slice none 0 cap) (.slice none 0 0)).run Try.prog w = .ok (.bool true) w := Lib.run_eql_slice_nil w 22 3 none 0 cap 0 0 ty30
    go_enter Try.func33, Try.ntmps33
    go_wp2
    go_ret
    exact ⟨⟨_, _, rfl⟩, Below.refl _ _⟩
  | some a =>
    have he : (binOp .eql 22 (.slice (some a) 0 cap) (.slice none 0 0)).run Try.prog w = .ok (.bool false) w := Lib.run_eql_slice_nil w 22 3 (some a) 0 cap 0 0 ty30
    go_enter Try.func33, Try.ntmps33
    go_wp2_with (first | (at_builtin; refine wpList_append_own _ rfl _ _ 22 rfl w.heap.size 3 i0 (.int .i64 0) 1 8 ty30 hi hz0 hz1 hz2 rfl (by decide) (sl w.heap.size 0 0) 0 [] rfl (World.ownsRow_lit w #[] 0 (Nat.le_refl _) (Nat.zero_le _) rfl) a 0 cap [] rfl (by simp) (by simp) (by simp) (by unfold maxLen; omega) (by omega) (by simp) ?_; intro v' w1 hown' hgrow hnil))
    simp only [Nat.zero_add, List.nil_append] at hown'
    obtain ⟨g, cap', rfl, hg, hown⟩ := own_shape hown' (fun e => by have := (hnil.1 e).1; cases this)
    go_ret
    exact ⟨⟨_, _, rfl⟩, ((Below.refl _ _).alloc (Nat.le_refl _) _).grown hgrow (by simp) (fun k hk => by simp [Value.ownBlock] at hk; omega)⟩

theorem box_cells {w wr : World} {a c : Value} {t : TypeId} (hb : Below (w.alloc (.cells #[a, c] t)).heap.size (w.alloc (.cells #[a, c] t)) wr) :
    wr.cell? ⟨w.heap.size, 0, none⟩ = some a ∧ wr.cell? ⟨w.heap.size, 1, none⟩ = some c := by
  constructor
  · rw [hb.cell (p := ⟨w.heap.size, 0, none⟩) (by simp)]; simp
  · rw [hb.cell (p := ⟨w.heap.size, 1, none⟩) (by simp)]; simp

/-- References of things at those places. -/
def refs (ps : List Nat) : List Int := ps.map (fun (p : Nat) => 2 * (p : Int))
theorem refs_snoc (ps : List Nat) (p : Nat) : vals (refs (ps ++ [p])) = vals (refs ps) ++ [.int .i64 (2 * (p : Int))] := by simp [refs]
theorem refs_length (ps : List Nat) : (refs ps).length = ps.length := by simp [refs]

theorem own_mono {w : World} {B B' : Nat} {e : TypeId} {size n : Nat} {v : Value} {xs : List Value} (hB : B' ≤ B) (h : w.ownsRow B e size v n xs) : w.ownsRow B' e size v n xs := by
  obtain ⟨h1, h2⟩ := h
  refine ⟨h1, ?_⟩
  rcases h2 with h2 | ⟨g, cap', cur, hv, hg, r⟩
  · exact Or.inl h2
  · exact Or.inr ⟨g, cap', cur, hv, Nat.le_trans hB hg, r⟩

/-- A call that answers numbers that it owns, nil or not. -/
def OwnedAny (B : Nat) (xs : List Int) (e : Ending) (w : World) : Prop := ∃ ad c, e = .returned (.slice ad xs.length c) ∧ w.ownsRow B 3 1 (.slice ad xs.length c) xs.length (vals xs)
theorem owned_any {B n : Nat} {xs : List Int} {v : Value} {w : World} (hn : n = xs.length) (h : w.ownsRow B 3 1 v n (vals xs)) : OwnedAny B xs (.returned v) w := by
  subst hn
  rcases h.2 with ⟨rfl, h0⟩ | ⟨g, cap, cur, rfl, r⟩
  · exact ⟨none, 0, by rw [h0], by rw [h0]; rw [h0] at h; exact h⟩
  · exact ⟨_, _, rfl, h⟩

set_option maxHeartbeats 1000000 in
theorem things_any (W : List Int) (b cap bm : Nat) (w : World) (hv : IsView w b cap bm W) (hu : unfit W 2 = none) (hl : W.length ≤ 2000) :
    Calls Try.prog 26 #[viewV b W.length cap bm] w fun e w' => OwnedAny w.heap.size (refs (places W 2)) e w' ∧ Below w.heap.size w w' := by
  obtain ⟨i0, hi, hz0, hz1, hz2⟩ := info_parts info3
  go_enter Try.func26, Try.ntmps26
  go_wp2
  go_loopw [3, 4] (fun v i wr => ∃ (p : Nat) (pre : List Nat), i = .int .i64 p ∧ 2 ≤ p ∧ p ≤ 2100 ∧ pre.length ≤ p ∧ unfit W p = none ∧ pre ++ places W p = places W 2 ∧ wr.ownsRow (w.heap.size + 1) 3 1 v pre.length (vals (refs pre)) ∧
      Below (w.alloc (.cells #[sl b W.length cap, .map (some bm)] 46)).heap.size (w.alloc (.cells #[sl b W.length cap, .map (some bm)] 46)) wr) (fun _ i _ => 3000 - (intOf i).toNat)
  case atStart => exact ⟨2, [], rfl, by omega, by omega, by simp, hu, rfl, World.ownsRow_nil _ _ _ _, Below.refl _ _⟩
  case round =>
    rename_i v0 i0' wr
    obtain ⟨p, pre, rfl, hp2, hpl, hlen, hup, hpre, hown, hbel⟩ := hrel
    obtain ⟨bx0, bx1⟩ := box_cells hbel
    by_cases hin : p < W.length
    · obtain ⟨hf, hun⟩ := unfit_head hin hup
      have hmem : p ∈ places W 2 := by rw [← hpre, places_in hin]; simp
      have hnn := next_num (fits_out hf).2.1
      have hge : p + 3 ≤ nextAt W p := by unfold nextAt; omega
      have hn : nextAt W p ≤ W.length := by have := fits_out hf; unfold nextAt; omega
      have hsz : w.heap.size + 1 ≤ wr.heap.size := by have := hbel.size; simpa using this
      have hsl : (p : Int) + (3 + (slotsAt W p : Nat)) = (nextAt W p : Nat) := by unfold nextAt; omega
      have hs60 : slotsAt W p ≤ 60 := by have := fits_out hf; unfold slotsAt; omega
      have hwf : (Lit.int .i64 (p : Int)).wf = true := by go_wf
      have hbm := hv.begun.lt
      obtain ⟨n, D, hm0, hmn, _, hatt⟩ := (hv.alloc (.cells #[sl b W.length cap, .map (some bm)] 46)).begun
      have hatp := hatt p hmem
      clear hatt hf hup hnn
      go_wp2_with (first | (at_builtin; go_must (refine wpList_append_own _ rfl _ _ 22 rfl (w.heap.size + 1) 3 i0 (.int .i64 0) 1 8 ty30 hi hz0 hz1 hz2 rfl (by decide) _ pre.length (vals (refs pre)) rfl (hown.alloc _) ⟨wr.heap.size, 0, none⟩ 1 1 [.int .i64 (2 * (p : Int))] rfl rfl (cell_one_new _ _ _) (ints_oneCell .i64 [2 * (p : Int)]) (by unfold maxLen; omega) (by omega) (by simp; omega) ?_); intro v' w1 hown' hgrow hnil; have hb2 := (hbel.alloc (by simp; omega) _).grown hgrow (by simp; omega) (fun k hk => by have := (hown.lt k hk).1; simp; omega); obtain ⟨by0, by1⟩ := box_cells hb2; have hm1 := ownsMap_below hm0 hb2 (by simp; omega)) | (at_lookup; go_must (refine wpList_lookup_own_int _ rfl _ _ 44 rfl 3 3 .i64 key3 ty59 ty3 (zero3 _) bm n D rfl hm1 _ _ rfl (keyOf_int_mk ty3 hwf) ?_); intro c hat hwc; have hcs : c = (slotsAt W p : Nat) := (by rw [hatp] at hat; simp at hat; exact hat.symm); subst hcs; clear hat hwc))
      go_roundw
      case rel => exact ⟨nextAt W p, pre ++ [p], by first | rfl | simp, by omega, by omega, by simp; omega, hun, by rw [← hpre, places_in hin]; simp, by rw [refs_snoc]; simpa using hown', hb2⟩
      case measure => simp [intOf]; omega
    · have hfin : pre = places W 2 := by rw [← hpre, places_end hin, List.append_nil]
      go_wp2
      go_ret
      subst hfin
      exact ⟨owned_any (refs_length _).symm (own_mono (by omega) hown), below_call hbel⟩
end Go.Proofs.Ythdhaokjibfjdaa
