/- What image.listsOf defers: it takes up what a reader gave up by. -/
import Derived.Test.YtdacgjjkgagjhacReader
import Derived.Defers
import Derived.Recover
namespace Go.Proofs.Ytdacgjjkgagjhac
open Go.RowKit

theorem eq_nil_nil (w : World) : (binOp BinOp.eql 20 .nilIface .nilIface).run Try.prog w = .ok (.bool true) w := by kernel_rfl
theorem eq_ended_nil (w : World) : (binOp BinOp.eql 20 (.iface 71 (.agg #[])) .nilIface).run Try.prog w = .ok (.bool false) w := by kernel_rfl
theorem eq_wrong_nil (c a : Int) (w : World) : (binOp BinOp.eql 20 (.iface 73 (.agg #[.int .i64 c, .int .i64 a])) .nilIface).run Try.prog w = .ok (.bool false) w := by kernel_rfl
theorem is_ended (w : World) : (Instr.typeAssert (.iface 71 (.agg #[])) 20 71 true).run Try.prog w = .ok (.tuple #[.agg #[], .bool true]) w := by kernel_rfl
theorem not_ended (c a : Int) (w : World) : (Instr.typeAssert (.iface 73 (.agg #[.int .i64 c, .int .i64 a])) 20 71 true).run Try.prog w = .ok (.tuple #[.agg #[], .bool false]) w := by kernel_rfl
theorem is_wrong (c a : Int) (w : World) : (Instr.typeAssert (.iface 73 (.agg #[.int .i64 c, .int .i64 a])) 20 73 true).run Try.prog w = .ok (.tuple #[.agg #[.int .i64 c, .int .i64 a], .bool true]) w := by kernel_rfl
theorem slots20 (a b x : Value) : #[a, b] ++ (Array.replicate 18 undef).setIfInBounds 4 x = #[a, b, undef, undef, undef, undef, x, undef, undef, undef, undef, undef, undef, undef, undef, undef, undef, undef, undef, undef] := by kernel_rfl
theorem catch_idle (pb pf : Addr) (w : World) :
    CallsD Try.prog 39 #[.pointer (some pb), .pointer (some pf)] .returning w fun e u' w' => e = .returned (.tuple #[]) ∧ u' = .returning ∧ w' = w := by
  have hnil := eq_nil_nil
  refine callsD_of_wpS Try.func39 rfl fun c₀ cs hu => ?_
  apply wpS_seq
  apply wpS_region
  simp [wpOpsS, go_sem, recoverD, hu, Try.ntmps39, Exit.thenS]
  refine wpS_of_wp ?_
  rw [slots20]
  refine Code.wp_mono (Q := fun e a' w' => e = .normal ∧ a'.defers = [] ∧ w' = w) (fun e a' w' h => ?_) ?_
  · obtain ⟨rfl, h2, rfl⟩ := h
    cases c₀; simp_all [bodyPostS, results, Try.results39]
  · go_wp2
theorem catch_ended (pb pf : Nat) (ad : Option Addr) (n cap : Nat) (v1 v2 : Value) (older : List PanicEntry) (w : World) (hb : w.cell? ⟨pb, 0, none⟩ = some (.slice ad n cap)) (h1 : w.cell? ⟨pf, 0, none⟩ = some v1) (h2 : w.cell? ⟨pf, 1, none⟩ = some v2) (f1 : w.frozen? ⟨pf, 0, none⟩ = false) (f2 : w.frozen? ⟨pf, 1, none⟩ = false) (l1 : pb < w.heap.size) (l2 : pf < w.heap.size) :
    CallsD Try.prog 39 #[.pointer (some ⟨pb, 0, none⟩), .pointer (some ⟨pf, 0, none⟩)] (.panicking ({ v := .iface 71 (.agg #[]), recovered := false } :: older)) w fun e u' w' =>
      e = .returned (.tuple #[]) ∧ u' = .panicking ({ v := .iface 71 (.agg #[]), recovered := true } :: older) ∧ w' = ((w.alloc (.cells #[] 71)).setCell ⟨pf, 0, none⟩ (.int .i64 8)).setCell ⟨pf, 1, none⟩ (.int .i64 n) := by
  have hnil := eq_ended_nil
  have hta := is_ended
  refine callsD_of_wpS Try.func39 rfl fun c₀ cs hu => ?_
  apply wpS_seq
  apply wpS_region
  simp [wpOpsS, go_sem, recoverD, hu, Try.ntmps39, Exit.thenS]
  refine wpS_of_wp ?_
  rw [slots20]
  refine Code.wp_mono (Q := fun e a' w' => e = .normal ∧ a'.defers = [] ∧ w' = ((w.alloc (.cells #[] 71)).setCell ⟨pf, 0, none⟩ (.int .i64 8)).setCell ⟨pf, 1, none⟩ (.int .i64 n)) (fun e a' w' h => ?_) ?_
  · obtain ⟨rfl, h2, rfl⟩ := h
    cases c₀; simp_all [bodyPostS, results, Try.results39]
  · go_wp2
theorem catch_wrong (pb : Addr) (pf : Nat) (c a : Int) (v1 v2 : Value) (older : List PanicEntry) (w : World) (h1 : w.cell? ⟨pf, 0, none⟩ = some v1) (h2 : w.cell? ⟨pf, 1, none⟩ = some v2) (f1 : w.frozen? ⟨pf, 0, none⟩ = false) (f2 : w.frozen? ⟨pf, 1, none⟩ = false) (l2 : pf < w.heap.size) :
    CallsD Try.prog 39 #[.pointer (some pb), .pointer (some ⟨pf, 0, none⟩)] (.panicking ({ v := .iface 73 (.agg #[.int .i64 c, .int .i64 a]), recovered := false } :: older)) w fun e u' w' =>
      e = .returned (.tuple #[]) ∧ u' = .panicking ({ v := .iface 73 (.agg #[.int .i64 c, .int .i64 a]), recovered := true } :: older) ∧ w' = ((w.alloc (.cells #[.int .i64 c, .int .i64 a] 73)).setCell ⟨pf, 0, none⟩ (.int .i64 c)).setCell ⟨pf, 1, none⟩ (.int .i64 a) := by
  have hnil := eq_wrong_nil c a
  have hta := not_ended c a
  have htb := is_wrong c a
  refine callsD_of_wpS Try.func39 rfl fun c₀ cs hu => ?_
  apply wpS_seq
  apply wpS_region
  simp [wpOpsS, go_sem, recoverD, hu, Try.ntmps39, Exit.thenS]
  refine wpS_of_wp ?_
  rw [slots20]
  refine Code.wp_mono (Q := fun e a' w' => e = .normal ∧ a'.defers = [] ∧ w' = ((w.alloc (.cells #[.int .i64 c, .int .i64 a] 73)).setCell ⟨pf, 0, none⟩ (.int .i64 c)).setCell ⟨pf, 1, none⟩ (.int .i64 a)) (fun e a' w' h => ?_) ?_
  · obtain ⟨rfl, h2, rfl⟩ := h
    cases c₀; simp_all [bodyPostS, results, Try.results39]
  · go_wp2
end Go.Proofs.Ytdacgjjkgagjhac
