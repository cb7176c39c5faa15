/- gessoref17: Do, of OpScan. -/
import Derived.Test.YthdhaokjibfjdaaRef18aX
namespace Go.Proofs.Ythdhaokjibfjdaa
open Go.RowKit

theorem words_wf {W : List Int} (h : (checkOf W).1 = 0) (k : Nat) : (Lit.int .i64 (wd W k)).wf = true := by
  obtain ⟨c1, hu, c3⟩ := check_fine h
  obtain ⟨f1, f2, f3, f4, f5⟩ := front_out c1
  have F := fine_of h
  have e : W = wd W 0 :: wd W 1 :: (places W 2).flatMap (thingW id W) := by
    rw [flat_same (t := id) (fun _ => rfl) _ 2 (Nat.le_refl _) f1 hu, ← drop_wd (show 1 < W.length by omega), ← drop_wd (show 0 < W.length by omega), List.drop_zero]
  have key : ∀ x ∈ W, (Lit.int .i64 x).wf = true := by
    intro x hx
    rw [e] at hx
    rcases List.mem_cons.1 hx with rfl | hx
    · rw [f3]; decide
    rcases List.mem_cons.1 hx with rfl | hx
    · go_wf
    obtain ⟨p, hp, hx⟩ := List.mem_flatMap.1 hx
    obtain ⟨a1, a2, a3, a4, a5⟩ := fault_all _ _ c3 p hp
    have hfo := fits_out (place_fit hu hp).2.2.1
    unfold thingW at hx
    rcases List.mem_cons.1 hx with rfl | hx
    · exact ok_wf (F.cls p hp)
    rcases List.mem_cons.1 hx with rfl | hx
    · go_wf
    rcases List.mem_cons.1 hx with rfl | hx
    · go_wf
    rw [slotsW_same (t := id) (fun _ => rfl)] at hx
    obtain ⟨k, hk, rfl⟩ := wd_index hx
    rw [slotList_length (F.room p hp)] at hk
    rw [slotList_at hk]
    have hst := (bad_none _ _).1 a2 k hk
    unfold standB at hst
    split at hst
    · have := of_decide_eq_true hst; go_wf
    · exact ok_wf hst
  by_cases hk : k < W.length
  · exact key _ (wd_mem hk)
  · rw [wd_past (by omega)]; decide
theorem row_own {w : World} {B g n c : Nat} {W : List Int} (h : w.ownsRow B 3 1 (sl g n c) n (vals W)) (hc : (checkOf W).1 = 0) : Row w g 0 W := by
  have hl : W.length = n := by have := h.1; simpa using this
  exact ⟨own_lt h, fun k hk => by rw [Nat.zero_add]; exact own_wd h (by omega), words_wf hc⟩
/-- An op as a value. -/
abbrev opV (p : OpT) : Value := .agg #[.int .i64 p.kind, .int .i64 p.o, .int .i64 p.pos, .int .i64 p.what, .int .i64 p.form, .int .i64 p.size]
theorem scan_at {W C : List Int} {pre rest : List Nat} {p : Nat} (h : pre ++ p :: rest = places W 2) (hn : ∀ q ∈ pre, wd C q ≠ 1) (hp : wd C p = 1) : scanC W C = shadeL (C.set p 2) (leadsAt W p) := by
  unfold scanC
  rw [← h, List.find?_append, List.find?_eq_none.2 (fun q hq => by simpa using hn q hq), List.find?_cons, Option.none_or]
  simp [hp]
theorem scan_none {W C : List Int} (hn : ∀ q ∈ places W 2, wd C q ≠ 1) : scanC W C = C := by
  unfold scanC
  rw [List.find?_eq_none.2 (fun q hq => by simpa using hn q hq)]
end Go.Proofs.Ythdhaokjibfjdaa
