/- image's reader: the number that stands there. -/
import Derived.Test.YtdacgjjkgagjhacReader
namespace Go.Proofs.Ytdacgjjkgagjhac
open Go.RowKit

theorem pow128 (k : Nat) : (128 : Nat) ^ k = 2 ^ (7 * k) := by rw [Nat.pow_mul]
theorem pow128_le {k : Nat} (h : k ≤ 9) : (128 : Nat) ^ k ≤ 9223372036854775808 := by
  have := Nat.pow_le_pow_right (n := 128) (by omega) h
  have e : (128 : Nat) ^ 9 = 9223372036854775808 := by decide
  omega
theorem group_lt {u k : Nat} {c : Int} (hu : u < 128 ^ k) : u + c.toNat % 128 * 128 ^ k < 128 ^ (k + 1) := by
  have h1 : c.toNat % 128 ≤ 127 := by omega
  have h2 := Nat.mul_le_mul_right (128 ^ k) h1
  rw [Nat.pow_succ]; omega
theorem shl_step {k : Nat} {c : Int} (hk : k < 9) (h0 : 0 ≤ c) : IntKind.u64.wrap (c % 128 * 2 ^ (7 * k)) = ((c.toNat % 128 * 128 ^ k : Nat) : Int) := by
  have h1 : c.toNat % 128 ≤ 127 := by omega
  have h2 := Nat.mul_le_mul_right (128 ^ k) h1
  have h3 := pow128_le (k := k + 1) (by omega)
  rw [Nat.pow_succ] at h3
  have e : c % 128 * 2 ^ (7 * k) = ((c.toNat % 128 * 128 ^ k : Nat) : Int) := by
    rw [pow128, Int.natCast_mul, Int.natCast_emod, Int.toNat_of_nonneg h0, Int.natCast_pow]; rfl
  rw [e, IntKind.wrap_u64]; omega
theorem or_step {u k : Nat} {c : Int} (hu : u < 128 ^ k) (hk : k < 9) (h0 : 0 ≤ c) : bits BinOp.or IntKind.u64 (u : Int) (IntKind.u64.wrap (c % 128 * 2 ^ (7 * k))) = ((u + c.toNat % 128 * 128 ^ k : Nat) : Int) := by
  have h1 : c.toNat % 128 ≤ 127 := by omega
  have h2 := Nat.mul_le_mul_right (128 ^ k) h1
  have h3 := pow128_le (k := k + 1) (by omega)
  rw [Nat.pow_succ] at h3
  rw [shl_step hk h0, u64_or_nat _ _ (by omega) (by omega)]
  congr 1
  rw [pow128] at hu ⊢
  have := Nat.two_pow_add_eq_or_of_lt hu (c.toNat % 128)
  rw [Nat.or_comm, Nat.mul_comm, ← this]; omega

/-- What number tells of bytes. -/
def NumEnd (rb : Nat) (ad : Option Addr) (cap : Nat) (b : List Int) (p : Nat) (w : World) (d : Dec) (e : Ending) (w' : World) : Prop :=
  match d with
  | .short => GivesUp (8, b.length) rb w e w'
  | .form => GivesUp (2, p) rb w e w'
  | .num u k => e = .returned (.int .i64 (unzig u)) ∧ Rd w' rb ad cap b (p + k) ∧ w.grownBy w' (some rb)

set_option maxHeartbeats 4000000 in
theorem number_dec (rb cap p : Nat) (ad : Option Addr) (b : List Int) (w : World) (h : Rd w rb ad cap b p) :
    Calls Try.prog 60 #[.pointer (some ⟨rb, 0, none⟩)] w fun e w' => NumEnd rb ad cap b p w (decN b p 9 0 0) e w' := by
  have c1 := h.c1
  have H : Hid (Rd w rb ad cap b p) := h
  generalize hD : decN b p 9 0 0 = D
  have HD : Hid (decN b p 9 0 0 = D) := hD
  clear hD h
  go_enter Try.func60, Try.ntmps60
  go_wp2_with fail
  go_loopw [4, 11] (fun z y wr => ∃ (k u : Nat), z = .int .u64 u ∧ y = .int .i64 k ∧ k ≤ 9 ∧ Hid (u < 128 ^ k) ∧ Hid (decN b p (9 - k) k u = D) ∧ Hid (Rd wr rb ad cap b (p + k)) ∧ w.grownBy wr (some rb)) (fun _ y _ => 9 - (intOf y).toNat)
  case atStart => exact ⟨0, 0, rfl, rfl, by omega, (show 0 < 128 ^ 0 by decide), HD, H, World.grownBy.refl _ _⟩
  case round =>
    rename_i z y wr
    obtain ⟨k, u, rfl, rfl, hk, hu, hd, hr, hg⟩ := hrel
    have hle := hr.out.le
    by_cases hend : p + k < b.length
    · have hby := wd_byte hr.out.byte (p + k)
      have Hw : Hid (∀ w0, Rd w0 rb ad cap b (p + k) → Calls Try.prog 59 #[.pointer (some ⟨rb, 0, none⟩)] w0 fun e w' => e = .returned (.int .u8 (wd b (p + k))) ∧ Rd w' rb ad cap b (p + k + 1) ∧ w0.grownBy w' (some rb)) := fun w0 h0 => next_more rb cap (p + k) ad b w0 h0 hend
      have hnot : ¬ b.length ≤ p + k := by omega
      by_cases hk9 : k < 9
      · have hi : (k : Int) < 9 := by omega
        have hor := or_step (c := wd b (p + k)) hu.out hk9 hby.1
        have hlt := group_lt (c := wd b (p + k)) hu.out
        have hmax := pow128_le (k := k + 1) (by omega)
        have hU : (u + (wd b (p + k)).toNat % 128 * 128 ^ k) < 9223372036854775808 := by omega
        have HU : Hid (u + (wd b (p + k)).toNat % 128 * 128 ^ k < 128 ^ (k + 1)) := hlt
        have hstep : decN b p (9 - k) k u = decN b p (8 - k + 1) k u := by rw [show 9 - k = 8 - k + 1 by omega]
        by_cases h1 : wd b (p + k) < 128
        · by_cases h0 : wd b (p + k) = 0
          · by_cases hk0 : k = 0
            · subst hk0
              have hu0 : u = 0 := by have := hu.out; simp at this; exact this
              subst hu0
              have HD' : Hid (D = .num 0 1) := by rw [← hd.out, hstep, dec_last hnot (by omega) h1, h0]; rfl
              have hor0 : bits BinOp.or IntKind.u64 0 0 = 0 := by decide
              have HU0 : Hid (∀ w0, Calls Try.prog 66 #[.int .u64 0] w0 fun e w' => e = .returned (.int .i64 0) ∧ w' = w0) := fun w0 => unfolded_any 0 w0 (by omega)
              rw [h0] at Hw
              clear hor hU HU hlt hmax hstep hby h0 h1 hd hu
              go_wp2_with (first | (go_at_call 59; refine (Hw.out _ hr.out).mono ?_; rintro e w2 ⟨rfl, hr2, hg2⟩) | (go_at_call 66; refine (HU0.out _).mono ?_; rintro e w3 ⟨rfl, hw3⟩; obtain rfl := hw3.symm))
              go_ret
              rw [HD'.out]
              exact ⟨rfl, hr2, grown_trans hg hg2⟩
            · have HD' : Hid (D = .form) := by rw [← hd.out, hstep]; exact dec_zero hnot ⟨h0, by omega⟩
              have hik : (0 : Int) < (k : Int) := by omega
              rw [h0] at Hw
              clear hor hU HU hlt hmax hstep
              go_wp2_with (first | (go_at_call 59; refine (Hw.out _ hr.out).mono ?_; rintro e w2 ⟨rfl, hr2, hg2⟩))
              rw [HD'.out]
              exact ⟨rfl, rfl, grown_trans hg hg2⟩
          · have HD' : Hid (D = .num (u + (wd b (p + k)).toNat * 128 ^ k) (k + 1)) := by rw [← hd.out, hstep]; exact dec_last hnot (fun e => h0 e.1) h1
            have hz : (wd b (p + k)).toNat * 128 ^ k = (wd b (p + k)).toNat % 128 * 128 ^ k := by rw [Nat.mod_eq_of_lt (by omega)]
            rw [hz] at HD'
            generalize u + (wd b (p + k)).toNat % 128 * 128 ^ k = U at *
            generalize wd b (p + k) = c at *
            clear hmax hlt hstep hz
            go_wp2_with (first | (go_at_call 59; refine (Hw.out _ hr.out).mono ?_; rintro e w2 ⟨rfl, hr2, hg2⟩) | (go_at_call 66; refine (unfolded_any U _ hU).mono ?_; rintro e w3 ⟨rfl, hw3⟩; obtain rfl := hw3.symm))
            go_ret
            rw [HD'.out]
            exact ⟨rfl, hr2, grown_trans hg hg2⟩
        · have h0 : ¬ wd b (p + k) = 0 := by omega
          have HD' : Hid (decN b p (9 - (k + 1)) (k + 1) (u + (wd b (p + k)).toNat % 128 * 128 ^ k) = D) := by
            have := hd.out
            rw [hstep, dec_more hnot (fun e => h0 e.1) h1, show 8 - k = 9 - (k + 1) by omega] at this
            exact this
          generalize u + (wd b (p + k)).toNat % 128 * 128 ^ k = U at *
          generalize wd b (p + k) = c at *
          clear hmax hlt hstep
          go_wp2_with (first | (go_at_call 59; refine (Hw.out _ hr.out).mono ?_; rintro e w2 ⟨rfl, hr2, hg2⟩))
          go_roundw
          case rel => exact ⟨k + 1, U, by first | rfl | simp, by first | rfl | simp, by omega, HU, HD', hr2, grown_trans hg hg2⟩
          case measure => simp [intOf]; omega
      · have hk' : k = 9 := by omega
        subst hk'
        have HD' : Hid (D = .form) := by rw [← hd.out]; exact dec_ten hnot
        go_wp2_with (first | (go_at_call 59; refine (Hw.out _ hr.out).mono ?_; rintro e w2 ⟨rfl, hr2, hg2⟩))
        rw [HD'.out]
        exact ⟨rfl, rfl, grown_trans hg hg2⟩
    · have HD' : Hid (D = .short) := by rw [← hd.out]; exact dec_end (by omega)
      have hr' := hr.out
      rw [show p + k = b.length by omega] at hr'
      have Hw : Hid (∀ w0, Rd w0 rb ad cap b b.length → Calls Try.prog 59 #[.pointer (some ⟨rb, 0, none⟩)] w0 fun e w' => GivesUp (8, b.length) rb w0 e w') := fun w0 h0 => next_end rb cap ad b w0 h0 _
      by_cases hk9 : k < 9
      · have hi : (k : Int) < 9 := by omega
        go_wp2_with (first | (go_at_call 59; refine (Hw.out _ hr').mono ?_; rintro e w2 ⟨rfl, hg2⟩))
        rw [HD'.out]
        exact ⟨rfl, rfl, grown_trans hg hg2⟩
      · have hk' : k = 9 := by omega
        subst hk'
        go_wp2_with (first | (go_at_call 59; refine (Hw.out _ hr').mono ?_; rintro e w2 ⟨rfl, hg2⟩))
        rw [HD'.out]
        exact ⟨rfl, rfl, grown_trans hg hg2⟩
end Go.Proofs.Ytdacgjjkgagjhac
