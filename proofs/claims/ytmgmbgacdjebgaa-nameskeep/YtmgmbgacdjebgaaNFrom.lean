/- names: the sum of a text's bytes; the slots from a text's seat on, one by one. -/
import Derived.RangeFuncNested
import Derived.RangeFuncBound
import Derived.RangeFuncCalls
import Derived.RangeFuncLeaves
import Derived.Shelf.Abstract
import Derived.Shelf.RegionOpen
import Derived.OwnWalkIn
import Derived.TacticsInMore
import Derived.LoopNIn
import Derived.LoopIn
import Derived.Test.YtmgmbgacdjebgaaHText
namespace Go.Proofs.Ytmgmbgacdjebgaa
open Go.RowKit Go.Shelf

attribute [local go_sem] Oper.semAt_some

set_option maxRecDepth 20000 in
set_option maxHeartbeats 1000000 in
theorem sum_any (t : ByteArray) (w : World) (hl : t.size ≤ 60) (s : Nat) (HS : Hid ((nums t).sum = (s : Int))) :
    Calls Try.prog 58 #[.string t] w fun e w' => e = .returned (.int .i64 (s : Int)) ∧ w' = w := by
  have HN := nums_length t
  have HL : Hid ((nums t).length = t.size) := HN
  clear HN
  go_enter Try.func58, Try.ntmps58
  go_wp2
  go_loopw [3, 7] (fun s3 s7 wr => ∃ (i : Nat) (S : Int), s3 = .int .i64 S ∧ s7 = .int .i64 i ∧ i ≤ t.size ∧ Hid (S = ((nums t).take i).sum) ∧ 0 ≤ S ∧ S ≤ 15300 ∧ wr = w) (fun _ s7 _ => t.size - (intOf s7).toNat)
  case atStart => exact ⟨0, 0, rfl, rfl, Nat.zero_le _, by show (0 : Int) = _; simp, by omega, by omega, rfl⟩
  case round =>
    obtain ⟨i, S, rfl, rfl, hi, HS', hS0, hS1, rfl⟩ := hrel
    by_cases hlt : i < t.size
    · have hil : (i : Int) < (t.size : Int) := by omega
      have hc := nums_at hlt
      have hby := wd_byte (nums_byte t) i
      have hnx : ((nums t).take (i + 1)).sum = S + wd (nums t) i := by rw [HS'.out]; exact sum_take (by rw [HL.out]; exact hlt)
      have hto := sum_to (nums_byte t) (by rw [HL.out]; exact hl) (i + 1)
      have HX : Hid (((nums t).take (i + 1)).sum = S + wd (nums t) i) := hnx
      rw [hnx] at hto
      clear hnx
      generalize wd (nums t) i = x at *
      have hw1 := wrap_id (x := x) (by omega) (by omega)
      have hw2 := wrap_id (x := S + x) (by omega) (by omega)
      go_wp2_with fail
      go_roundw
      case rel => exact ⟨i + 1, S + x, rfl, by first | rfl | simp, by omega, HX.out.symm, hto.1, hto.2, trivial⟩
      case measure => simp [intOf]; omega
    · have e : i = t.size := by omega
      have H : Hid (S = (s : Int)) := by
        have h1 := HS'.out
        rw [e, ← HL.out, List.take_length] at h1
        show S = (s : Int)
        rw [h1]; exact HS.out
      subst e
      go_wp2_with fail
      go_ret
      exact ⟨by have := H.out; subst this; rfl, rfl⟩

/-- The slots that have been gone through when k rounds are over. -/
def upto (s n k : Nat) : List Nat := (List.range k).map fun i => (s + i) % n
theorem upto_next (s n k : Nat) : upto s n (k + 1) = upto s n k ++ [(s + k) % n] := by simp [upto, List.range_succ]
theorem upto_length (s n k : Nat) : (upto s n k).length = k := by simp [upto]
theorem upto_mem {s n k i : Nat} (h : i < k) : (s + i) % n ∈ upto s n k := List.mem_map.2 ⟨i, List.mem_range.2 h, rfl⟩
/-- What a round is handed. -/
abbrev seatV (xs : List Int) (k : Nat) : Array Value := #[.int .i64 (k : Int), .int .i64 (wd xs k)]

set_option maxRecDepth 100000 in
set_option maxHeartbeats 2000000 in
theorem from1_in (n : Nat) (hn : 1 ≤ n) (l Bs Bt n₀ g o c : Nat) (t : ByteArray) (ht : t.size ≤ 60) (s : Nat) (hs : s ≤ 15300) (HS : Hid ((nums t).sum = (s : Int))) (xs : List Int) (hl0 : 0 < xs.length) (hl60 : xs.length ≤ 60) (J Jx : List Nat → World → Prop)
    (hY : ∀ pre (x : Nat) W, J pre W → pre.length < xs.length → YieldAt Fence.wide (n - 1) Try.prog l (seatV xs x) W fun e W' =>
      (e = .returned (.bool true) ∧ J (pre ++ [x]) W' ∧ Below n₀ W W') ∨ (e = .returned (.bool false) ∧ Jx (pre ++ [x]) W'))
    (W : World) (hcs : W.cell? ⟨Bs, 0, none⟩ = some (.string t)) (hct : W.cell? ⟨Bt, 2, none⟩ = some (.slice (some ⟨g, o, none⟩) xs.length c)) (hBt : Bt < n₀) (hg : g < n₀) (hx : ∀ k, k < xs.length → W.cell? ⟨g, o + k, none⟩ = some (.int .i64 (wd xs k))) (h0 : J [] W) :
    CallsIn Fence.wide n Try.prog 57 #[.func (.yield l) #[] #[], .pointer (some ⟨Bs, 0, none⟩), .pointer (some ⟨Bt, 0, none⟩)] W fun e W' => (∃ v, e = .returned v) ∧
      ((∃ ys, ys = upto s xs.length xs.length ∧ J ys W') ∨ (∃ pre, (∃ k, k < xs.length ∧ pre = upto s xs.length (k + 1)) ∧ Jx pre W')) := by
  have HX : Hid (∀ k, k < xs.length → W.cell? ⟨g, o + k, none⟩ = some (.int .i64 (wd xs k))) := hx
  clear hx
  refine callsIn_of_wp Try.func57 rfl trivial ?_ rfl
  simp only [Try.ntmps57, List.size_toArray, List.length_cons, List.length_nil, Nat.reduceAdd, Nat.reduceSub, Array.replicate_succ, Array.replicate_zero, List.push_toArray, List.append_toArray, List.nil_append, List.cons_append]
  gi_wp2_with (refine ⟨trivial, ?_⟩; gi_at_call 58; refine (callsIn_wide.2 (sum_any t _ ht s HS)).mono ?_; rintro e w' ⟨rfl, hw'⟩; rw [hw']; clear hw' w')
  gi_loopw [12] (fun i wr => ∃ k : Nat, k ≤ xs.length ∧ i = .int .i64 k ∧ J (upto s xs.length k) wr ∧ Below n₀ W wr)
    (fun i _ => xs.length - (intOf i).toNat)
  case atStart => exact ⟨0, Nat.zero_le _, rfl, h0, Below.refl _ _⟩
  case round =>
    obtain ⟨k, hk, rfl, hJs, hnx⟩ := hrel
    have hct' : wr.cell? ⟨Bt, 2, none⟩ = some (.slice (some ⟨g, o, none⟩) xs.length c) := (hnx.cell (p := ⟨Bt, 2, none⟩) hBt).trans hct
    by_cases hlt : k < xs.length
    · obtain ⟨q, hq⟩ : ∃ q, q = (s + k) % xs.length := ⟨_, rfl⟩
      have hq0 : q < xs.length := by rw [hq]; exact Nat.mod_lt _ hl0
      have hm1 : ((s : Int) + (k : Int)) % (xs.length : Int) = (q : Int) := by rw [hq, Int.natCast_emod, Int.natCast_add]
      have hm2 : ((s : Int) + (k : Int)).tmod (xs.length : Int) = (q : Int) := by rw [Int.tmod_eq_emod_of_nonneg (by omega)]; exact hm1
      have hcx : wr.cell? ⟨g, o + q, none⟩ = some (.int .i64 (wd xs q)) := (hnx.cell (p := ⟨g, o + q, none⟩) hg).trans (HX.out q hq0)
      have hw1 := wrap_id (x := (s : Int) + (k : Int)) (by omega) (by omega)
      have hw2 := wrap_id (x := (q : Int)) (by omega) (by omega)
      have hz : ((xs.length : Int) == 0) = false := by rw [beq_eq_false_iff_ne]; omega
      have hil : (q : Int) < (xs.length : Int) := by omega
      obtain ⟨fn, tmps, assign, body, hy, hR⟩ := hY _ q wr hJs (by rw [upto_length]; exact hlt)
      dsimp only [seatV] at hy
      have HQ : Hid (q = (s + k) % xs.length) := hq
      clear hq
      gi_wp2
      refine hR.mono ?_
      rintro e W3 (⟨rfl, hJ3, hk3⟩ | ⟨rfl, hJx3⟩)
      · gi_wp2
        go_roundw
        case rel => exact ⟨k + 1, by omega, by simp, by rw [upto_next, ← HQ.out]; exact hJ3, hnx.trans hk3⟩
        case measure => simp [intOf]; omega
      · gi_wp2
        refine bodyPost_ret (results_none rfl _ _ _) rfl ?_
        exact ⟨⟨_, rfl⟩, .inr ⟨_, ⟨k, hlt, by rw [upto_next, ← HQ.out]⟩, hJx3⟩⟩
    · obtain rfl : k = xs.length := by omega
      gi_wp2
      go_end0
      exact ⟨⟨_, rfl⟩, .inl ⟨_, rfl, hJs⟩⟩
end Go.Proofs.Ytmgmbgacdjebgaa
