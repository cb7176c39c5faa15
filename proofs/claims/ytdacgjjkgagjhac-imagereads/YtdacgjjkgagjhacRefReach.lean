/- gessoref3.Reach: marks tell what is reached. -/
import Derived.Test.YtdacgjjkgagjhacRefMark
import Derived.Test.YtdacgjjkgagjhacView3
import Derived.Deep.QuietTactic
namespace Go.Proofs.Ytdacgjjkgagjhac
open Go.RowKit

theorem ty4 : Try.prog.underlying 4 = some .bool := by kernel_rfl
theorem info4 : (Try.prog.info? 4).map (fun i => (i.zero, i.size, i.bytes)) = some (some (.bool false), 1, 1) := by kernel_rfl

/-- Roots where they lie. -/
abbrev RootsAt (rad : Option Addr) (roots : List Int) (w : World) : Prop := 0 < roots.length → ∃ rb ro, rad = some ⟨rb, ro, none⟩ ∧ Row w rb ro roots
theorem RootsAt.below {rad : Option Addr} {roots : List Int} {w w' : World} (h : RootsAt rad roots w) (hb : Below w.heap.size w w') : RootsAt rad roots w' :=
  fun h0 => let ⟨rb, ro, e, r⟩ := h h0; ⟨rb, ro, e, r.same hb⟩

/-- What reach.Reach of the document says. -/
def ReachAns (W roots : List Int) (B0 : Nat) (e : Ending) (w : World) : Prop :=
  ∃ ob B, e = .returned (sl ob W.length W.length) ∧ B0 ≤ ob ∧ Marks w ob W.length W.length B ∧ ∀ k, bt B k = true ↔ Reached W roots (2 * (k : Int))

theorem take_snoc {xs : List Int} {i : Nat} (h : i < xs.length) : xs.take (i + 1) = xs.take i ++ [wd xs i] := by
  rw [List.take_add_one, List.getElem?_eq_getElem h]
  simp [wd, List.getElem?_eq_getElem h]
/-- Some of what a thing leads to. -/
def leadTo (W : List Int) (p j : Nat) : List Int := wd W p :: (W.drop (p + 3)).take j
theorem leadTo_zero (W : List Int) (p : Nat) : leadTo W p 0 = [] ++ [wd W p] := by simp [leadTo]
theorem leadTo_succ {W : List Int} {p j : Nat} (h : p + 3 + j < W.length) : leadTo W p (j + 1) = leadTo W p j ++ [wd W (p + 3 + j)] := by
  unfold leadTo
  have hd : j < (W.drop (p + 3)).length := by rw [List.length_drop]; omega
  rw [take_snoc hd]
  have : wd (W.drop (p + 3)) j = wd W (p + 3 + j) := by
    unfold wd; rw [List.getD_eq_getElem?_getD, List.getD_eq_getElem?_getD, List.getElem?_drop]
  rw [this]; rfl
theorem leadTo_plain {W : List Int} {p : Nat} (h : formAt W p = 0) : leadTo W p (slotsAt W p) = leadsAt W p := by unfold leadTo leadsAt; rw [if_pos h]
theorem leadTo_else {W : List Int} {p : Nat} (h : formAt W p ≠ 0) : leadTo W p 0 = leadsAt W p := by unfold leadTo leadsAt; rw [if_neg h]; simp
theorem lead_reached {W roots : List Int} {B : List Bool} {p : Nat} {o : Int} (hs : Sound W roots B) (hb : bt B p = true) (ho : o ∈ leadsAt W p) : thingB W o = true → Reached W roots o := fun ht =>
  .step (hs p hb) (by rw [show (2 * (p : Int) / 2).toNat = p by omega]; exact ho) ht
theorem class_lead (W : List Int) (p : Nat) : wd W p ∈ leadsAt W p := by simp [leadsAt]
theorem slot_lead {W : List Int} {p j : Nat} (h : formAt W p = 0) (hj : j < slotsAt W p) (hl : p + 3 + slotsAt W p ≤ W.length) : wd W (p + 3 + j) ∈ leadsAt W p := by
  unfold leadsAt
  rw [if_pos h]
  refine List.mem_cons_of_mem _ ?_
  have h1 : j < ((W.drop (p + 3)).take (slotsAt W p)).length := by rw [List.length_take, List.length_drop]; omega
  have : ((W.drop (p + 3)).take (slotsAt W p))[j] = wd W (p + 3 + j) := by
    unfold wd
    rw [List.getElem_take, List.getElem_drop, List.getD_eq_getElem?_getD, List.getElem?_eq_getElem (by omega)]; rfl
  rw [← this]; exact List.getElem_mem h1
theorem bt_false (n k : Nat) : bt (List.replicate n false) k = false := by
  unfold bt; rw [List.getD_eq_getElem?_getD, List.getElem?_replicate]; split <;> rfl
theorem sound_none (W roots : List Int) (n : Nat) : Sound W roots (List.replicate n false) := fun k hk => by rw [bt_false] at hk; cases hk

end Go.Proofs.Ytdacgjjkgagjhac
