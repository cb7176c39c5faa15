/- Numbers as bytes: image.folded, unfolded, appendNumber; gessoref6.Number. -/
import Derived.Test.YtdacgjjkgagjhacBytesMem
import Derived.Test.YtdacgjjkgagjhacImagePlain
import Derived.Laws.BitsAllLaws
import Derived.Laws.Shifts
namespace Go.Proofs.Ytdacgjjkgagjhac
open Go.RowKit

theorem folded_any (n : Int) (w : World) (h1 : -4611686018427387904 ≤ n) (h2 : n ≤ 4611686018427387903) :
    Calls Try.prog 57 #[.int .i64 n] w fun e w' => e = .returned (.int .u64 (zig n : Nat)) ∧ w' = w := by
  by_cases h : n < 0
  · have hz : ((zig n : Nat) : Int) = -2 * n - 1 := by unfold zig; rw [if_pos h]; omega
    go_enter Try.func57, Try.ntmps57
    go_wp2
    go_ret
    exact ⟨by first | rfl | (simp; omega) | (rw [hz]; simp; omega), rfl⟩
  · have hz : ((zig n : Nat) : Int) = 2 * n := by unfold zig; rw [if_neg h]; omega
    go_enter Try.func57, Try.ntmps57
    go_wp2
    go_ret
    exact ⟨by first | rfl | (simp; omega) | (rw [hz]; simp; omega), rfl⟩
theorem unfolded_any (u : Nat) (w : World) (h1 : u < 9223372036854775808) :
    Calls Try.prog 66 #[.int .u64 (u : Int)] w fun e w' => e = .returned (.int .i64 (unzig u)) ∧ w' = w := by
  by_cases h : u % 2 = 1
  · have hz : unzig u = -((u / 2 : Nat) : Int) - 1 := by unfold unzig; rw [if_pos h]
    have hm : (u : Int) % 2 = 1 := by omega
    go_enter Try.func66, Try.ntmps66
    go_wp2
    go_ret
    exact ⟨by rw [hz]; simp, rfl⟩
  · have hz : unzig u = ((u / 2 : Nat) : Int) := by unfold unzig; rw [if_neg h]
    have hm : ¬ (u : Int) % 2 = 1 := by omega
    go_enter Try.func66, Try.ntmps66
    go_wp2
    go_ret
    exact ⟨by rw [hz]; simp, rfl⟩
theorem cell_byte_new (w : World) (y : Int) (t : TypeId) : ∀ j u, (bytesV [y])[j]? = some u → (w.alloc (.cells #[.int .u8 y] t)).cell? ((⟨w.heap.size, 0, none⟩ : Addr).add j) = some u := cell_one_new w (.int .u8 y) t
/-- Those bytes, in memory from block B on. -/
def AnsB (B : Nat) (xs : List Int) (e : Ending) (w : World) : Prop := ∃ g cap, e = .returned (sl g xs.length cap) ∧ B ≤ g ∧ HasB w g cap xs
theorem short_enc {xs ys : List Int} {x : Int} {u : Nat} (h : ys ++ enc u = xs ++ numB x) (hs : (numB x).length ≤ 9) (hl : xs.length ≤ 900000) : ys.length + 1 ≤ 900009 := by
  have := congrArg List.length h
  have := enc_pos u
  simp only [List.length_append] at *
  omega

theorem enc_step {ys zs : List Int} {u : Nat} (h : ys ++ enc u = zs) (hu : ¬ u < 128) : Hid (ys ++ [(u : Int) % 128 + 128] ++ enc (u / 128) = zs) := by
  have : ys ++ [(u : Int) % 128 + 128] ++ enc (u / 128) = zs := by rw [← h, enc_high hu]; simp
  exact this

set_option maxHeartbeats 1000000 in
theorem appendNumber_any (B : Nat) (v : Value) (xs : List Int) (x : Int) (w : World) (hown : OwnB w B v xs) (hB : B ≤ w.heap.size) (h1 : -4611686018427387904 ≤ x) (h2 : x ≤ 4611686018427387903) (hs : (numB x).length ≤ 9) (hl : xs.length ≤ 900000) :
    Calls Try.prog 35 #[v, .int .i64 x] w fun e w' => AnsB B (xs ++ numB x) e w' ∧ Below B w w' := by
  have hz : zig x < 9223372036854775808 := by unfold zig; split <;> omega
  have HE : Hid ((numB x) = enc (zig x)) := rfl
  go_enter Try.func35, Try.ntmps35
  go_wp2_with (go_at_call 57; refine (folded_any x _ h1 h2).mono ?_; rintro e w1 ⟨rfl, hw1⟩; obtain rfl := hw1.symm)
  generalize zig x = z at *
  go_loopw [0, 5] (fun s y wr => ∃ (ys : List Int) (u : Nat), y = .int .u64 u ∧ u < 9223372036854775808 ∧ OwnB wr B s ys ∧ Hid (ys ++ enc u = xs ++ numB x) ∧ Below B w wr) (fun _ y _ => (intOf y).toNat)
  case atStart => exact ⟨xs, z, rfl, hz, hown, by rw [HE.out]; rfl, Below.refl _ _⟩
  case round =>
    rename_i s y wr
    obtain ⟨ys, u, rfl, hu, ho, he, hb⟩ := hrel
    have hsz := hb.size
    have hys := short_enc he.out hs hl
    clear hown hz HE
    by_cases hlt : u < 128
    · have hc : ¬ (128 : Int) ≤ (u : Int) := by omega
      go_wp2_with (first | (at_builtin; go_must (refine wpList_append_B rfl _ _ rfl B _ ys rfl (ho.alloc _) ⟨wr.heap.size, 0, none⟩ 1 1 [(u : Int)] rfl rfl (cell_byte_new _ _ _) (by omega) (by omega) (by simp; omega) ?_); intro g cap w1 hg hhas hgrow))
      go_ret
      have hfin : ys ++ [(u : Int)] = xs ++ numB x := by rw [← he.out, enc_low hlt]
      rw [hfin] at hhas
      refine ⟨⟨g, cap, by rw [← hfin]; simp, hg, hhas⟩, (hb.alloc (by omega) _).grown hgrow (by simp; omega) (fun k hk => (ho.owns k hk).1)⟩
    · have hc : (128 : Int) ≤ (u : Int) := by omega
      go_wp2_with (first | (at_builtin; go_must (refine wpList_append_B rfl _ _ rfl B _ ys rfl (ho.alloc _) ⟨wr.heap.size, 0, none⟩ 1 1 [(u : Int) % 128 + 128] rfl rfl (cell_byte_new _ _ _) (by omega) (by omega) (by simp; omega) ?_); intro g cap w1 hg hhas hgrow))
      go_roundw
      case rel => exact ⟨ys ++ [(u : Int) % 128 + 128], u / 128, by first | rfl | (simp), by omega, Or.inr ⟨g, cap, by simp, hg, hhas⟩, enc_step he.out hlt, (hb.alloc (by omega) _).grown hgrow (by simp; omega) (fun k hk => (ho.owns k hk).1)⟩
      case measure => simp [intOf]; omega

set_option maxHeartbeats 1000000 in
theorem rNumber_any (x : Int) (w : World) (h1 : -4611686018427387904 ≤ x) (h2 : x ≤ 4611686018427387903) (hs : (numB x).length ≤ 9) :
    Calls Try.prog 24 #[.int .i64 x] w fun e w' => AnsB w.heap.size (numB x) e w' ∧ Below w.heap.size w w' := by
  by_cases hneg : x < 0
  all_goals
    have HZ : Hid (((zig x : Nat) : Int) = if x < 0 then -2 * x - 1 else 2 * x) := (by have : ((zig x : Nat) : Int) = if x < 0 then -2 * x - 1 else 2 * x := (by unfold zig; split <;> omega); exact this)
    have hz : zig x < 9223372036854775808 := by unfold zig; split <;> omega
    have HE : Hid (numB x = enc (zig x)) := rfl
    go_enter Try.func24, Try.ntmps24
    go_wp2
    go_loopw [4, 3] (fun s y wr => ∃ (ys : List Int) (u : Nat), y = .int .u64 u ∧ u < 9223372036854775808 ∧ OwnB wr w.heap.size s ys ∧ Hid (ys ++ enc u = numB x) ∧ Below w.heap.size w wr) (fun _ y _ => (intOf y).toNat)
    case atStart => exact ⟨[], zig x, by (have := HZ.out; simp [hneg] at this ⊢; omega), hz, OwnB.nil _ _, HE.out.symm, Below.refl _ _⟩
    case round =>
      rename_i s y wr
      obtain ⟨ys, u, rfl, hu, ho, he, hb⟩ := hrel
      have hsz := hb.size
      have hys := short_enc (xs := []) (x := x) (by simpa using he.out) hs (by simp)
      clear hz HE HZ
      by_cases hlt : u < 128
      · have hc : ¬ (128 : Int) ≤ (u : Int) := by omega
        go_wp2_with (first | (at_builtin; go_must (refine wpList_append_B rfl _ _ rfl w.heap.size _ ys rfl (ho.alloc _) ⟨wr.heap.size, 0, none⟩ 1 1 [(u : Int)] rfl rfl (cell_byte_new _ _ _) (by omega) (by omega) (by simp; omega) ?_); intro g cap w1 hg hhas hgrow))
        go_ret
        have hfin : ys ++ [(u : Int)] = numB x := by rw [← he.out, enc_low hlt]
        rw [hfin] at hhas
        refine ⟨⟨g, cap, by rw [← hfin]; simp, hg, hhas⟩, (hb.alloc (by omega) _).grown hgrow (by simp; omega) (fun k hk => (ho.owns k hk).1)⟩
      · have hc : (128 : Int) ≤ (u : Int) := by omega
        go_wp2_with (first | (at_builtin; go_must (refine wpList_append_B rfl _ _ rfl w.heap.size _ ys rfl (ho.alloc _) ⟨wr.heap.size, 0, none⟩ 1 1 [(u : Int) % 128 + 128] rfl rfl (cell_byte_new _ _ _) (by omega) (by omega) (by simp; omega) ?_); intro g cap w1 hg hhas hgrow))
        go_roundw
        case rel => exact ⟨ys ++ [(u : Int) % 128 + 128], u / 128, by first | rfl | (simp), by omega, Or.inr ⟨g, cap, by simp, hg, hhas⟩, enc_step he.out hlt, (hb.alloc (by omega) _).grown hgrow (by simp; omega) (fun k hk => (ho.owns k hk).1)⟩
        case measure => simp [intOf]; omega
end Go.Proofs.Ytdacgjjkgagjhac
