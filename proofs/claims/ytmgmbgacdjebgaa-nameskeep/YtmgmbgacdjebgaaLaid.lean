/- heap/lay.go: a thing as words. -/
import Derived.Test.YtmgmbgacdjebgaaLook
import Derived.Test.YtmgmbgacdjebgaaGrow
namespace Go.Proofs.Ytmgmbgacdjebgaa
open Go.RowKit

theorem shape_nat : ∀ m, m < 61 → ∀ f, f < 3 → bits BinOp.or IntKind.i64 (((m : Nat) : Int) * 4) ((f : Nat) : Int) = 4 * (m : Int) + f := by decide
theorem shape_bits {m : Nat} {fo : Int} (hm : m ≤ 60) (h0 : 0 ≤ fo) (h2 : fo ≤ 2) : bits BinOp.or IntKind.i64 (IntKind.i64.wrap ((m : Int) * 4)) fo = 4 * (m : Int) + fo := by
  obtain ⟨f, rfl⟩ := Int.eq_ofNat_of_zero_le h0
  rw [wrap_id (by omega) (by omega)]
  exact shape_nat m (by omega) f (by omega)
theorem shape_plain {m : Nat} {fo : Int} (hm : m ≤ 60) (h0 : 0 ≤ fo) (h2 : fo ≤ 2) : bits BinOp.or IntKind.i64 ((m : Int) * 4) fo = 4 * (m : Int) + fo := by
  obtain ⟨f, rfl⟩ := Int.eq_ofNat_of_zero_le h0
  exact shape_nat m (by omega) f (by omega)
theorem own_three (w : World) (x y z : Value) : (w.alloc (.cells #[x, y, z] 3)).ownsRow w.heap.size 3 1 (sl w.heap.size 3 3) 3 [x, y, z] :=
  ⟨rfl, Or.inr ⟨w.heap.size, 3, #[x, y, z], rfl, Nat.le_refl _, heap_alloc_new w _, Nat.le_refl _, by decide, rfl, rfl⟩⟩
theorem news_at {w : World} {g c : Nat} {xs : List Int} (h : w.ownsRow 0 3 1 (sl g xs.length c) xs.length (vals xs)) : ∀ j u, (vals xs)[j]? = some u → w.cell? ((⟨g, 0, none⟩ : Addr).add j) = some u := h.cells (g := g) rfl

set_option maxHeartbeats 1000000 in
theorem laid_none (c h f : Int) (ad : Option Addr) (cc : Nat) (w : World) (hf : 0 ≤ f ∧ f ≤ 2) :
    Calls Try.prog 56 #[thingV c h f (.slice ad 0 cc)] w fun e w' => Owned w.heap.size [c, h, f] e w' ∧ Below w.heap.size w w' := by
  have hsh0 : bits BinOp.or IntKind.i64 0 f = f := by have := shape_nat 0 (by omega) f.toNat (by omega); simpa [Int.toNat_of_nonneg hf.1] using this
  have hown := own_mono (Nat.zero_le _) (own_three (w.alloc (.cells #[.int .i64 c, .int .i64 h, .int .i64 f, .slice ad 0 cc] 60)) (.int .i64 c) (.int .i64 h) (.int .i64 f))
  cases ad with
  | some a =>
    go_enter Try.func56, Try.ntmps56
    go_wp2
    go_ret
    exact ⟨⟨w.heap.size + 1, 3, rfl, by omega, by simpa using hown⟩, ((Below.refl _ _).alloc (Nat.le_refl _) _).alloc (by simp) _⟩
  | none =>
    go_enter Try.func56, Try.ntmps56
    go_wp2
    go_ret
    exact ⟨⟨w.heap.size + 1, 3, rfl, by omega, by simpa using hown⟩, ((Below.refl _ _).alloc (Nat.le_refl _) _).alloc (by simp) _⟩

set_option maxHeartbeats 1000000 in
theorem laid_some (c h f : Int) (xs : List Int) (g cc : Nat) (w : World) (hg : w.ownsRow 0 3 1 (sl g xs.length cc) xs.length (vals xs)) (hl : xs.length ≤ 60) (hf : 0 ≤ f ∧ f ≤ 2) :
    Calls Try.prog 56 #[thingV c h f (sl g xs.length cc)] w fun e w' => Owned w.heap.size (c :: h :: (4 * (xs.length : Int) + f) :: xs) e w' ∧ Below w.heap.size w w' := by
  obtain ⟨i0, hi, hz0, hz1, hz2⟩ := info_parts info3
  have hsh := shape_plain (m := xs.length) (fo := f) hl hf.1 hf.2
  have hown := own_three (w.alloc (.cells #[.int .i64 c, .int .i64 h, .int .i64 f, sl g xs.length cc] 60)) (.int .i64 c) (.int .i64 h) (.int .i64 (4 * (xs.length : Int) + f))
  have hown' : ((w.alloc (.cells #[.int .i64 c, .int .i64 h, .int .i64 f, sl g xs.length cc] 60)).alloc (.cells #[.int .i64 c, .int .i64 h, .int .i64 (4 * (xs.length : Int) + f)] 3)).ownsRow (w.heap.size + 1) 3 1 (sl (w.heap.size + 1) 3 3) 3 [.int .i64 c, .int .i64 h, .int .i64 (4 * (xs.length : Int) + f)] := by simpa using hown
  clear hown
  have hnews := news_at (w := (w.alloc (.cells #[.int .i64 c, .int .i64 h, .int .i64 f, sl g xs.length cc] 60)).alloc (.cells #[.int .i64 c, .int .i64 h, .int .i64 (4 * (xs.length : Int) + f)] 3)) (hg.alloc _ |>.alloc _)
  go_enter Try.func56, Try.ntmps56
  go_wp2_with (at_builtin; refine wpList_append_own _ rfl (.tmp 16) (.tmp 18) 22 rfl (w.heap.size + 1) 3 i0 (.int .i64 0) 1 8 ty30 hi hz0 hz1 hz2 rfl (by decide) (sl (w.heap.size + 1) 3 3) 3 [.int .i64 c, .int .i64 h, .int .i64 (4 * (xs.length : Int) + f)] rfl hown' ⟨g, 0, none⟩ xs.length cc (vals xs) rfl (by simp) hnews (ints_oneCell .i64 xs) (by unfold maxLen; omega) (by omega) (by simp) ?_; intro v' w3 hown3 hgrow3 hnil3; obtain ⟨g3, c3, hv3, hg3, hown4⟩ := own_shape hown3 (fun e => by have := (hnil3.1 e).1; cases this); subst hv3)
  go_ret
  have hln : (c :: h :: (4 * (xs.length : Int) + f) :: xs).length = 3 + xs.length := by simp; omega
  rw [Nat.add_comm] at hln
  refine ⟨⟨g3, c3, by rw [hln]; simp [Nat.add_comm], by omega, by rw [hln]; simpa [vals, Nat.add_comm] using hown4⟩, ?_⟩
  exact (((Below.refl _ _).alloc (Nat.le_refl _) _).alloc (by simp) _).grown hgrow3 (by simp; omega) (fun k hk => by simp [Value.ownBlock] at hk; omega)

theorem laid_any (c h f : Int) (xs : List Int) (B : Nat) (v : Value) (w : World) (hs : SlotsOwn B xs v w) (hl : xs.length ≤ 60) (hf : 0 ≤ f ∧ f ≤ 2) :
    Calls Try.prog 56 #[thingV c h f v] w fun e w' => Owned w.heap.size (c :: h :: (4 * (xs.length : Int) + f) :: xs) e w' ∧ Below w.heap.size w w' := by
  obtain ⟨ad, cc, rfl, hs⟩ := hs
  by_cases h0 : 0 < xs.length
  · obtain ⟨g, rfl, _, hown⟩ := hs h0
    exact laid_some _ _ _ _ _ _ _ hown hl hf
  · have e0 : xs = [] := List.eq_nil_of_length_eq_zero (by omega)
    subst e0
    have := laid_none c h f ad cc w hf
    simpa using this

end Go.Proofs.Ytmgmbgacdjebgaa
