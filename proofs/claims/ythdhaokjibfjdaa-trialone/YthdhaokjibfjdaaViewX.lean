/- A view: its own words, and where things begin. -/
import Derived.Test.YthdhaokjibfjdaaMemX
import Derived.Test.YthdhaokjibfjdaaRefHeapX
import Derived.Maps.OwnSet
import Derived.WalkSmall
import Derived.Deep.QuietTactic
import Derived.BigQuiet
namespace Go.Proofs.Ythdhaokjibfjdaa
open Go.RowKit
open Go.Maps (Keyed keyOf_int_mk)

theorem ty3 : Try.prog.underlying 3 = some (.int .i64) := by kernel_rfl
theorem ty30 : Try.prog.underlying 22 = some (.slice 3) := by kernel_rfl
theorem ty59 : Try.prog.underlying 44 = some (.map 3 3) := by kernel_rfl
theorem zero3 (w : World) : (zeroValue 3).run Try.prog w = .ok (.int .i64 0) w := by kernel_rfl
theorem info3 : (Try.prog.info? 3).map (fun i => (i.zero, i.size, i.bytes)) = some (some (.int .i64 0), 1, 8) := by kernel_rfl
theorem key3 : Keyed Try.prog 3 := Go.Maps.int_keyed ty3

/-- A view as a value. -/
abbrev viewV (b n cap bm : Nat) : Value := .agg #[sl b n cap, .map (some bm)]

/-- The map in block bm has those places, and how many slots things there have. -/
def Begun (w : World) (bm : Nat) (W : List Int) (ps : List Nat) : Prop :=
  ∃ (n : Nat) (D : DataW Unit), w.ownsMap Try.prog 3 (plainElem Try.prog 3) bm n D ∧ n ≤ ps.length ∧
    (∀ k : Nat, Go.Maps.has D (.int .i64 k) = ps.contains k) ∧ (∀ k : Nat, k ∈ ps → D.atKey (.int .i64 k) (.lit (.int .i64 0)) = .lit (.int .i64 (slotsAt W k : Nat)))

theorem Begun.lt {w : World} {bm : Nat} {W : List Int} {ps : List Nat} (h : Begun w bm W ps) : bm < w.heap.size := by
  obtain ⟨n, D, ho, _⟩ := h; exact ho.lt
theorem ownsMap_below {w w' : World} {H : Type} {P : Program} {k : TypeId} {R : Value → Option (DataW H × List MemPlace)} {b n B : Nat} {D : DataW H} (h : w.ownsMap P k R b n D) (hb : Below B w w') (hB : b < B) : w'.ownsMap P k R b n D := by
  obtain ⟨es, clock, hb0, r⟩ := h
  exact ⟨es, clock, by rw [hb.block b hB]; exact hb0, r⟩
theorem Begun.below {w w' : World} {bm B : Nat} {W : List Int} {ps : List Nat} (h : Begun w bm W ps) (hb : Below B w w') (hB : bm < B) : Begun w' bm W ps := by
  obtain ⟨n, D, ho, r⟩ := h; exact ⟨n, D, ownsMap_below ho hb hB, r⟩
/-- The view of W: its words in block b, where its things begin in block bm. -/
structure IsView (w : World) (b cap bm : Nat) (W : List Int) : Prop where
  own : w.ownsRow 0 3 1 (sl b W.length cap) W.length (W.map (Value.int .i64))
  wf : ∀ k, (Lit.int .i64 (wd W k)).wf = true
  begun : Begun w bm W (places W 2)

theorem IsView.lt {w : World} {b cap bm : Nat} {W : List Int} (h : IsView w b cap bm W) : b < w.heap.size := own_lt h.own
theorem IsView.same {w w' : World} {b cap bm : Nat} {W : List Int} (h : IsView w b cap bm W) (hb : Below w.heap.size w w') : IsView w' b cap bm W :=
  ⟨ownsRow_below h.own hb h.lt, h.wf, h.begun.below hb h.begun.lt⟩
theorem IsView.alloc {w : World} {b cap bm : Nat} {W : List Int} (h : IsView w b cap bm W) (o : Obj) : IsView (w.alloc o) b cap bm W :=
  h.same ((Below.refl _ _).alloc (Nat.le_refl _) o)
theorem own_cell {w : World} {base : Nat} {cap b : Nat} {W : List Int} (h : w.ownsRow base 3 1 (sl b W.length cap) W.length (W.map (Value.int .i64))) {k : Nat} (hk : k < W.length) : w.cell? ⟨b, k, none⟩ = some (.int .i64 (wd W k)) := by
  rw [h.cellAt k (by omega)]
  simp [wd, List.getElem?_eq_getElem hk]
theorem IsView.cell {w : World} {b cap bm : Nat} {W : List Int} (h : IsView w b cap bm W) {k : Nat} (hk : k < W.length) : w.cell? ⟨b, k, none⟩ = some (.int .i64 (wd W k)) := own_cell h.own hk
theorem IsView.row {w : World} {b cap bm : Nat} {W : List Int} (h : IsView w b cap bm W) : Row w b 0 W :=
  ⟨h.lt, fun k hk => by rw [Nat.zero_add]; exact h.cell hk, h.wf⟩
theorem own_cap {w : World} {base : Nat} {cap b : Nat} {n : Nat} {xs : List Value} (h : w.ownsRow base 3 1 (sl b n cap) n xs) : n ≤ cap ∧ cap ≤ maxLen := by
  rcases h.2 with ⟨h2, _⟩ | ⟨g, cap', cur, hv, hg, hh, r⟩
  · cases h2
  · simp only [Value.slice.injEq, Option.some.injEq, Addr.mk.injEq, and_true, true_and] at hv
    obtain ⟨rfl, rfl⟩ := hv
    exact ⟨r.1, r.2.1⟩

/-- o & 3 of an int is what is left of o by 4. -/
theorem and_three_i64 (o : Int) : bits BinOp.and IntKind.i64 o 3 = o % 4 := by
  have e : ((BitVec.ofInt 64 o &&& 3#64).toNat : Int) = o % 4 := by
    rw [BitVec.toNat_and, BitVec.toNat_ofInt]
    show (((o % ((2 ^ 64 : Nat) : Int)).toNat &&& 3 : Nat) : Int) = o % 4
    rw [show (3 : Nat) = 2 ^ 2 - 1 from rfl, Nat.and_two_pow_sub_one_eq_mod]
    omega
  have f : bits BinOp.and IntKind.i64 o 3 = IntKind.i64.wrap ((BitVec.ofInt 64 o &&& 3#64).toNat : Int) := rfl
  rw [f, e, IntKind.wrap_i64]
  omega

/-- A form. -/
def formB (f : Int) : Bool := decide (0 ≤ f ∧ f ≤ 2)
/-- A size. -/
def sizeB (n : Int) : Bool := decide (0 ≤ n ∧ n ≤ 60)

theorem isForm_any (f : Int) (w : World) : Calls Try.prog 76 #[.int .i64 f] w fun e w' => e = .returned (.bool (formB f)) ∧ w' = w := by
  by_cases h0 : f = 0
  · subst h0
    go_enter Try.func76, Try.ntmps76
    go_wp2
    go_ret
    exact ⟨rfl, rfl⟩
  · by_cases h1 : f = 1
    · subst h1
      go_enter Try.func76, Try.ntmps76
      go_wp2
      go_ret
      exact ⟨rfl, rfl⟩
    · by_cases h2 : f = 2
      · subst h2
        go_enter Try.func76, Try.ntmps76
        go_wp2
        go_ret
        exact ⟨rfl, rfl⟩
      · have e : formB f = false := decide_eq_false (by omega)
        have b0 : (f == 0) = false := by simpa using h0
        have b1 : (f == 1) = false := by simpa using h1
        have b2 : (f == 2) = false := by simpa using h2
        rw [e]
        clear e h0 h1 h2
        go_enter Try.func76, Try.ntmps76
        go_wp2
        go_ret
        exact ⟨rfl, rfl⟩
theorem isSize_any (n : Int) (w : World) : Calls Try.prog 77 #[.int .i64 n] w fun e w' => e = .returned (.bool (sizeB n)) ∧ w' = w := by
  by_cases h0 : 0 ≤ n
  · by_cases h1 : n ≤ 60
    · have e : sizeB n = true := decide_eq_true ⟨h0, h1⟩
      rw [e]; clear e
      go_enter Try.func77, Try.ntmps77
      go_wp2
      go_ret
      exact ⟨rfl, rfl⟩
    · have e : sizeB n = false := decide_eq_false (by omega)
      rw [e]; clear e
      go_enter Try.func77, Try.ntmps77
      go_wp2
      go_ret
      exact ⟨rfl, rfl⟩
  · have e : sizeB n = false := decide_eq_false (by omega)
    rw [e]; clear e
    go_enter Try.func77, Try.ntmps77
    go_wp2
    go_ret
    exact ⟨rfl, rfl⟩

theorem form_any (W : List Int) (b cap bm p : Nat) (w : World) (hr : Row w b 0 W) (hp : p + 3 ≤ W.length) (hl : W.length ≤ 2000) :
    Calls Try.prog 66 #[viewV b W.length cap bm, .int .i64 p] w fun e w' => e = .returned (.int .i64 (formAt W p)) ∧ Below w.heap.size w w' := by
  have hlt := hr.lt
  have hc := hr.cell (p + 2) (by omega)
  rw [Nat.zero_add] at hc
  have ha := and_three_i64 (wd W (p + 2))
  go_enter Try.func66, Try.ntmps66
  go_wp2
  go_ret
  exact ⟨rfl, (Below.refl _ _).alloc (Nat.le_refl _) _⟩

theorem begin_of {W : List Int} {D : DataW Unit} (h : ∀ k : Nat, Go.Maps.has D (.int .i64 k) = (places W 2).contains k) {q : Int} (hq : 0 ≤ q) : Go.Maps.has D (.int .i64 q) = beginB W q.toNat := by
  obtain ⟨n, rfl⟩ := Int.eq_ofNat_of_zero_le hq
  exact h n

theorem has_any (W : List Int) (b cap bm : Nat) (o : Int) (w : World) (hv : IsView w b cap bm W) :
    Calls Try.prog 42 #[viewV b W.length cap bm, .int .i64 o] w fun e w' => e = .returned (.bool (thingB W o)) ∧ Below w.heap.size w w' := by
  by_cases hk : kindOf o = 3
  · have ho := kind_three hk
    obtain ⟨n, D, hown, hn, hhas, _⟩ := hv.begun
    have hb : Go.Maps.has D (.int .i64 (o / 2)) = beginB W (o / 2).toNat := begin_of hhas (by omega)
    rw [thing_yes hk, ← hb]
    clear hhas hb
    have hbm := hown.lt
    go_enter Try.func42, Try.ntmps42
    go_wp2_with (first | (go_at_call 59; refine (kind_any _ _).mono ?_; rintro e w' ⟨rfl, rfl⟩) | (at_lookup; refine wpList_lookup_own_ok_int _ rfl _ _ 44 rfl 3 3 .i64 key3 ty59 ty3 (zero3 _) bm n D rfl (hown.alloc _) _ _ rfl (keyOf_int_mk ty3 (by go_wf)) ?_; intro c hat hwc))
    go_ret
    exact ⟨rfl, (Below.refl _ _).alloc (Nat.le_refl _) _⟩
  · rw [thing_no hk]
    have hb : (kindOf o != 3) = true := by simpa using hk
    go_enter Try.func42, Try.ntmps42
    go_wp2_with (first | (go_at_call 59; refine (kind_any _ _).mono ?_; rintro e w' ⟨rfl, rfl⟩))
    go_ret
    exact ⟨rfl, (Below.refl _ _).alloc (Nat.le_refl _) _⟩

end Go.Proofs.Ythdhaokjibfjdaa
