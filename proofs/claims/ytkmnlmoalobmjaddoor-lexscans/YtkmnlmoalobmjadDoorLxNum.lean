/- package lex: what is wrong with a decimal. -/
import Derived.Test.YtkmnlmoalobmjadDoorLxPast
import Derived.Lib.AtoiAllMem
namespace Go.Proofs.YtkmnlmoalobmjadDoor
open Go.RowKit

/-- The library's variable holds an error. -/
def Errs (w : World) : Prop := 2 < w.heap.size ∧ ∃ te pe, w.cell? ⟨2, 0, none⟩ = some (.iface te pe)
theorem Errs.lasts {w w' : World} (h : Errs w) (hb : Below w.heap.size w w') : Errs w' := by
  obtain ⟨h1, te, pe, h2⟩ := h
  exact ⟨by have := hb.size; omega, te, pe, by rw [hb.cell (p := ⟨2, 0, none⟩) h1]; exact h2⟩
/-- Atoi of digits: their value, or an error where there are too many. -/
def AtoiAns (V : Int) (w : World) (e : Ending) (w' : World) : Prop :=
  Below w.heap.size w w' ∧ ((V ≤ 9223372036854775807 ∧ e = .returned (.tuple #[.int .i64 V, .nilIface])) ∨ (9223372036854775807 < V ∧ ∃ N, e = .returned (.tuple #[.int .i64 9223372036854775807, .iface 56 (.pointer (some ⟨N, 0, none⟩))])))
theorem atoi_any (s : ByteArray) (h0 : 0 < s.size) (hs : s.size ≤ 4000) (hd : ∀ j, j < s.size → digB (wd (nums s) j) = true) (w : World) (he : Errs w) :
    Calls Tryd.prog 27 #[.string s] w fun e w' => AtoiAns (decU (nums s) 0 s.size) w e w' := by
  rcases atoi_digs h0 hd with ⟨h1, h2⟩ | ⟨h1, h2⟩
  · refine (Tryd.strconv_Atoi_ok s (by omega) _ h2 w).mono ?_
    rintro e w' ⟨rfl, hw⟩
    refine ⟨?_, Or.inl ⟨h1, rfl⟩⟩
    rcases hw with rfl | ⟨t, rfl⟩
    · exact Below.refl _ _
    · exact Lib.bytesWorld_below _ _ _
  · obtain ⟨_, te, pe, hc⟩ := he
    refine (Tryd.strconv_Atoi_range s (by omega) h2 _ w hc (Or.inr ⟨te, pe, rfl⟩)).mono ?_
    rintro e w' ⟨N, rfl, _, _, hb⟩
    refine ⟨hb, Or.inr ⟨h1, N, ?_⟩⟩
    have : Lib.atoiSat s.data.toList = 9223372036854775807 := by
      cases hs' : s.data.toList with
      | nil =>
        have : s.data.toList.length = s.size := by rw [Array.length_toList]; rfl
        rw [hs'] at this; simp at this; omega
      | cons c r =>
        refine Lib.atoiSat_other c r ?_
        have h3 := hd 0 h0
        have e : wd (nums s) 0 = (c.toNat : Int) := by unfold nums; rw [hs']; rfl
        rw [e] at h3
        unfold digB at h3
        have := of_decide_eq_true h3
        omega
    rw [this]

theorem asks_let (b : Nat) : Asks 22 #[.pointer (some ⟨b, 0, none⟩)] letB (HoldsT b ⟨#[97, 98, 99, 100, 101, 102, 103, 104, 105, 106, 107, 108, 109, 110, 111, 112, 113, 114, 115, 116, 117, 118, 119, 120, 121, 122, 65, 66, 67, 68, 69, 70, 71, 72, 73, 74, 75, 76, 77, 78, 79, 80, 81, 82, 83, 84, 85, 86, 87, 88, 89, 90, 95]⟩) := asks_one b fun hc => tells_let hc
set_option maxHeartbeats 4000000 in
theorem decimal_any (s u : ByteArray) (h0 : 0 < s.size) (hs : s.size ≤ 4000) (hu : u.size ≤ 4000) (hd : ∀ j, j < s.size → digB (wd (nums s) j) = true) (w : World) (he : Errs w) (r : Int)
    (HR : Hid (r = if (decide (1073741823 < decU (nums s) 0 s.size) || (decide (1 < s.size) && wd (nums s) 0 == 48) || decide (0 < stopP letB (nums u) 0)) = true then 2 else 0)) :
    Calls Tryd.prog 20 #[.string s, .string u] w fun e w' => e = .returned (.int .i64 r) ∧ Below w.heap.size w w' := by
  have hA := atoi_any s h0 hs hd w he
  have hi0 : (0 : Int) < (s.size : Int) := by omega
  have hcc := nums_at h0
  have hby := wd_byte (nums_byte s) 0
  have hn : stopP letB (nums u) 0 ≤ u.size := by rw [← nums_length]; exact stop_le (Nat.zero_le _)
  generalize wd (nums s) 0 = x at *
  have hV : Hid (0 ≤ decU (nums s) 0 s.size) := decU_pos _ fun j hj => by rw [Nat.zero_add]; exact hd j hj
  generalize decU (nums s) 0 s.size = V at *
  have hP : ∀ (b : Nat) (w : World), HoldsT b ⟨#[97, 98, 99, 100, 101, 102, 103, 104, 105, 106, 107, 108, 109, 110, 111, 112, 113, 114, 115, 116, 117, 118, 119, 120, 121, 122, 65, 66, 67, 68, 69, 70, 71, 72, 73, 74, 75, 76, 77, 78, 79, 80, 81, 82, 83, 84, 85, 86, 87, 88, 89, 90, 95]⟩ w → Calls Tryd.prog 13 #[.string u, .int .i64 0, .func (.func 22) #[] #[.pointer (some ⟨b, 0, none⟩)]] w fun e w' => e = .returned (.int .i64 (stopP letB (nums u) 0 : Nat)) ∧ Below w.heap.size w w' :=
    fun b w hH => past_any _ _ letB _ (asks_let b) u 0 w hH (Nat.zero_le _) hu
  generalize stopP letB (nums u) 0 = n at *
  have H2 : Hid ((1073741823 < V ∨ (1 < s.size ∧ x = 48) ∨ 0 < n) → r = 2) := fun h => by
    rw [HR.out, if_pos]
    simp only [Bool.or_eq_true, Bool.and_eq_true, decide_eq_true_eq, beq_iff_eq]
    omega
  have H0 : Hid (¬ (1073741823 < V ∨ (1 < s.size ∧ x = 48) ∨ 0 < n) → r = 0) := fun h => by
    rw [HR.out, if_neg]
    simp only [Bool.or_eq_true, Bool.and_eq_true, decide_eq_true_eq, beq_iff_eq]
    omega
  clear hd HR
  by_cases hV1 : V ≤ 9223372036854775807
  · have hA1 : Calls Tryd.prog 27 #[.string s] w fun e w' => e = .returned (.tuple #[.int .i64 V, .nilIface]) ∧ Below w.heap.size w w' := hA.mono fun e w' ⟨hb, hE⟩ => by
      rcases hE with ⟨_, h⟩ | ⟨h, _⟩
      · exact ⟨h, hb⟩
      · omega
    clear hA
    have hv0 := hV.out
    go_enter Tryd.func20, Tryd.ntmps20
    go_wp2_with (first | (go_at_call 27; refine hA1.mono ?_; rintro e w1 ⟨rfl, hb1⟩) | (go_at_call 14; refine (oneOf_any _ _).mono ?_; rintro e w2 ⟨rfl, hH, hb2⟩) | (go_at_call 13; refine (hP _ _ hH).mono ?_; rintro e w3 ⟨rfl, hb3⟩))
    all_goals
      go_ret
      refine ⟨?_, hb1.trans ((hb2.trans (hb3.mono hb2.size)).mono hb1.size)⟩
      try simp only [beq_iff_eq, beq_eq_false_iff_ne, ne_eq] at *
      first
        | (rw [H2.out (by omega)]; rfl)
        | (rw [H0.out (by omega)]; rfl)
  · have hA1 : Calls Tryd.prog 27 #[.string s] w fun e w' => ∃ N, e = .returned (.tuple #[.int .i64 9223372036854775807, .iface 56 (.pointer (some ⟨N, 0, none⟩))]) ∧ Below w.heap.size w w' := hA.mono fun e w' ⟨hb, hE⟩ => by
      rcases hE with ⟨h, _⟩ | ⟨_, N, h⟩
      · omega
      · exact ⟨N, h, hb⟩
    clear hA
    go_enter Tryd.func20, Tryd.ntmps20
    go_wp2_with (first | (go_at_call 27; refine hA1.mono ?_; rintro e w1 ⟨N, rfl, hb1⟩) | (go_at_call 14; refine (oneOf_any _ _).mono ?_; rintro e w2 ⟨rfl, hH, hb2⟩) | (go_at_call 13; refine (hP _ _ hH).mono ?_; rintro e w3 ⟨rfl, hb3⟩))
    all_goals
      go_ret
      refine ⟨?_, hb1.trans ((hb2.trans (hb3.mono hb2.size)).mono hb1.size)⟩
      first
        | (rw [H2.out (by omega)]; rfl)
        | (rw [H0.out (by omega)]; rfl)
end Go.Proofs.YtkmnlmoalobmjadDoor
