/- gessoref6.number. -/
import Derived.Test.YtdacgjjkgagjhacReadNum
import Derived.Test.YtdacgjjkgagjhacOpenB
namespace Go.Proofs.Ytdacgjjkgagjhac
open Go.RowKit

/-- What number tells of bytes. -/
def RNumEnd (n p : Nat) (d : Dec) (e : Ending) : Prop :=
  match d with
  | .short => e = .returned (.tuple #[.int .i64 0, .int .i64 0, .agg #[.int .i64 8, .int .i64 n]])
  | .form => e = .returned (.tuple #[.int .i64 0, .int .i64 0, .agg #[.int .i64 2, .int .i64 p]])
  | .num u k => e = .returned (.tuple #[.int .i64 (unzig u), .int .i64 k, .agg #[.int .i64 0, .int .i64 0]])

set_option maxRecDepth 20000 in
set_option maxHeartbeats 4000000 in
theorem rnumber_dec (ad : Option Addr) (cap p : Nat) (b : List Int) (w : World) (h : BytesAt ad b w) (hbm : b.length ≤ maxLen) (hp : p ≤ 1000000) :
    Calls Try.prog 43 #[.slice ad b.length cap, .int .i64 p] w fun e w' => RNumEnd b.length p (decN b p 9 0 0) e ∧ Below w.heap.size w w' := by
  generalize hD : decN b p 9 0 0 = D
  have HD : Hid (decN b p 9 0 0 = D) := hD
  have HB : Hid (BytesAt ad b w) := h
  unfold maxLen at hbm
  clear hD h
  have hc0 : (w.alloc (.cells #[.int .i64 0, .int .i64 0] 27)).cell? ⟨w.heap.size, 0, none⟩ = some (.int .i64 0) := by rw [cell_at2 rfl]; rfl
  have hc1 : (w.alloc (.cells #[.int .i64 0, .int .i64 0] 27)).cell? ⟨w.heap.size, 1, none⟩ = some (.int .i64 0) := by rw [cell_at2 rfl]; rfl
  have hbA : Below w.heap.size w (w.alloc (.cells #[.int .i64 0, .int .i64 0] 27)) := (Below.refl _ _).alloc (Nat.le_refl _) _
  go_enter Try.func43, Try.ntmps43
  go_wp2_with fail
  go_loopw [7, 8] (fun z y wr => wr = w.alloc (.cells #[.int .i64 0, .int .i64 0] 27) ∧ ∃ (k u : Nat), z = .int .u64 u ∧ y = .int .i64 k ∧ k ≤ 9 ∧ Hid (u < 128 ^ k) ∧ Hid (decN b p (9 - k) k u = D)) (fun _ y _ => 9 - (intOf y).toNat)
  case atStart => exact ⟨rfl, 0, 0, rfl, rfl, by omega, (show 0 < 128 ^ 0 by decide), HD⟩
  case round =>
    obtain ⟨rfl, k, u, rfl, rfl, hk, hu, hd⟩ := hrel
    by_cases hend : p + k < b.length
    · have hnot : ¬ b.length ≤ p + k := by omega
      have hge : ¬ (b.length : Int) ≤ (p : Int) + (k : Int) := by omega
      by_cases hk9 : k < 9
      · obtain ⟨g, off, rfl, hrow⟩ := HB.out.2 (by omega)
        have hglt := hrow.lt
        have hcell := (hrow.same hbA).cell (p + k) hend
        have hby := wd_byte hrow.byte (p + k)
        have hi : (k : Int) < 9 := by omega
        have hsh := shl_step (k := k) (c := wd b (p + k)) hk9 hby.1
        have hlt := group_lt (c := wd b (p + k)) hu.out
        have hmax := pow128_le (k := k + 1) (by omega)
        have hU : u + (wd b (p + k)).toNat % 128 * 128 ^ k < 9223372036854775808 := by omega
        have HU : Hid (u + (wd b (p + k)).toNat % 128 * 128 ^ k < 128 ^ (k + 1)) := hlt
        have hstep : decN b p (9 - k) k u = decN b p (8 - k + 1) k u := by rw [show 9 - k = 8 - k + 1 by omega]
        clear hrow hlt hmax
        by_cases h0 : wd b (p + k) = 0 ∧ 0 < k
        · obtain ⟨h00, hk0⟩ := h0
          have HD' : Hid (D = .form) := by rw [← hd.out, hstep]; exact dec_zero hnot ⟨h00, hk0⟩
          have hik : (0 : Int) < (k : Int) := by omega
          rw [h00] at hcell
          clear hsh hU HU hstep hby
          go_wp2
          refine bodyPost_ret (v := .tuple #[.int .i64 0, .int .i64 0, .agg #[.int .i64 2, .int .i64 (p : Int)]]) (by simp [results, Try.results43, go_sem]) rfl ⟨by rw [HD'.out]; rfl, ?_⟩
          exact (Below.refl _ _).alloc (Nat.le_refl _) _
        · by_cases h1 : wd b (p + k) < 128
          · have hdl := dec_last (f := 8 - k) (u := u) hnot h0 h1
            have hz : (wd b (p + k)).toNat * 128 ^ k = (wd b (p + k)).toNat % 128 * 128 ^ k := by rw [Nat.mod_eq_of_lt (by omega)]
            have HD' : Hid (D = .num (u + (wd b (p + k)).toNat % 128 * 128 ^ k) (k + 1)) := by
              have e : D = .num (u + (wd b (p + k)).toNat % 128 * 128 ^ k) (k + 1) := by rw [← hd.out, hstep, hdl, hz]
              exact e
            by_cases h00 : wd b (p + k) = 0
            · have hk0 : k = 0 := by omega
              subst hk0
              have hu0 : u = 0 := by have := hu.out; simp at this; exact this
              subst hu0
              rw [h00] at hcell HD'
              simp only [Nat.add_zero] at hcell hend
              clear hsh hU HU hstep hby hdl hz h0 h1 h00 hd hu
              go_wp2
              refine bodyPost_ret (v := .tuple #[.int .i64 0, .int .i64 1, .agg #[.int .i64 0, .int .i64 0]]) (by simp [results, Try.results43, go_sem]) rfl ⟨by rw [HD'.out]; rfl, ?_⟩
              exact (Below.refl _ _).alloc (Nat.le_refl _) _
            · generalize hX : (wd b (p + k)).toNat % 128 * 128 ^ k = X at *
              generalize hC : wd b (p + k) = c at *
              clear hX hC hstep hdl hz h0 hd hu
              by_cases hpar : (u + X) % 2 = 1
              · have hm : ((u : Int) + (X : Int)) % 2 = 1 := by omega
                have Hv : Hid (unzig (u + X) = -(((u : Int) + (X : Int)) / 2) - 1) := by
                  have e : unzig (u + X) = -(((u : Int) + (X : Int)) / 2) - 1 := by unfold unzig; rw [if_pos hpar]; omega
                  exact e
                clear hpar
                go_wp2
                refine bodyPost_ret (v := .tuple #[.int .i64 (-(((u : Int) + (X : Int)) / 2) - 1), .int .i64 ((k : Int) + 1), .agg #[.int .i64 0, .int .i64 0]]) (by simp [results, Try.results43, go_sem]) rfl ⟨by rw [HD'.out]; unfold RNumEnd; simp only; rw [Hv.out]; rfl, ?_⟩
                exact (Below.refl _ _).alloc (Nat.le_refl _) _
              · have hm : ¬ ((u : Int) + (X : Int)) % 2 = 1 := by omega
                have Hv : Hid (unzig (u + X) = ((u : Int) + (X : Int)) / 2) := by
                  have e : unzig (u + X) = ((u : Int) + (X : Int)) / 2 := by unfold unzig; rw [if_neg hpar]; omega
                  exact e
                clear hpar
                go_wp2
                refine bodyPost_ret (v := .tuple #[.int .i64 (((u : Int) + (X : Int)) / 2), .int .i64 ((k : Int) + 1), .agg #[.int .i64 0, .int .i64 0]]) (by simp [results, Try.results43, go_sem]) rfl ⟨by rw [HD'.out]; unfold RNumEnd; simp only; rw [Hv.out]; rfl, ?_⟩
                exact (Below.refl _ _).alloc (Nat.le_refl _) _
          · have h00 : ¬ wd b (p + k) = 0 := by omega
            have HD' : Hid (decN b p (9 - (k + 1)) (k + 1) (u + (wd b (p + k)).toNat % 128 * 128 ^ k) = D) := by
              have := hd.out
              rw [hstep, dec_more hnot (fun e => h00 e.1) h1, show 8 - k = 9 - (k + 1) by omega] at this
              exact this
            generalize hX : (wd b (p + k)).toNat % 128 * 128 ^ k = X at *
            generalize hC : wd b (p + k) = c at *
            clear hX hC hstep h0 hd hu
            go_wp2
            go_roundw
            case rel => exact ⟨by first | rfl | trivial, k + 1, u + X, by first | rfl | simp, by first | rfl | simp, by omega, HU, HD'⟩
            case measure => simp [intOf]; omega
      · have hk' : k = 9 := by omega
        subst hk'
        have HD' : Hid (D = .form) := by rw [← hd.out]; exact dec_ten hnot
        have hge9 : ¬ (b.length : Int) ≤ (p : Int) + 9 := by omega
        clear hge
        go_wp2
        refine bodyPost_ret (v := .tuple #[.int .i64 0, .int .i64 0, .agg #[.int .i64 2, .int .i64 (p : Int)]]) (by simp [results, Try.results43, go_sem]) rfl ⟨by rw [HD'.out]; rfl, ?_⟩
        exact (Below.refl _ _).alloc (Nat.le_refl _) _
    · have HD' : Hid (D = .short) := by rw [← hd.out]; exact dec_end (by omega)
      by_cases hk9 : k < 9
      · have hi : (k : Int) < 9 := by omega
        have hge : (b.length : Int) ≤ (p : Int) + (k : Int) := by omega
        go_wp2
        refine bodyPost_ret (v := .tuple #[.int .i64 0, .int .i64 0, .agg #[.int .i64 8, .int .i64 (b.length : Int)]]) (by simp [results, Try.results43, go_sem]) rfl ⟨by rw [HD'.out]; rfl, ?_⟩
        exact (Below.refl _ _).alloc (Nat.le_refl _) _
      · have hk' : k = 9 := by omega
        subst hk'
        have hge9 : (b.length : Int) ≤ (p : Int) + 9 := by omega
        go_wp2
        refine bodyPost_ret (v := .tuple #[.int .i64 0, .int .i64 0, .agg #[.int .i64 8, .int .i64 (b.length : Int)]]) (by simp [results, Try.results43, go_sem]) rfl ⟨by rw [HD'.out]; rfl, ?_⟩
        exact (Below.refl _ _).alloc (Nat.le_refl _) _
theorem numAt_le {b : List Int} (hb : ∀ c ∈ b, 0 ≤ c ∧ c ≤ 255) {p q : Nat} {n : Int} (h : numAt b p = .ok (n, q)) : p ≤ q ∧ q ≤ p + 9 := by
  obtain ⟨a1, a2, a3, a4⟩ := numAt_out hb h
  refine ⟨a2, ?_⟩
  have hl : (numB n).length ≤ 9 := enc_short 9 _ a4 (by omega)
  rw [← a1] at hl
  simp at hl
  omega
theorem rnumber_ok (ad : Option Addr) (cap p q : Nat) (n : Int) (b : List Int) (w : World) (h : BytesAt ad b w) (hbm : b.length ≤ maxLen) (hp : p ≤ 1000000) (hn : numAt b p = .ok (n, q)) :
    Calls Try.prog 43 #[.slice ad b.length cap, .int .i64 p] w fun e w' => e = .returned (.tuple #[.int .i64 n, .int .i64 ((q - p : Nat) : Int), .agg #[.int .i64 0, .int .i64 0]]) ∧ Below w.heap.size w w' := by
  refine (rnumber_dec ad cap p b w h hbm hp).mono fun e w' hp => ?_
  unfold numAt at hn
  cases hd : decN b p 9 0 0 with
  | short => rw [hd] at hn; cases hn
  | form => rw [hd] at hn; cases hn
  | num u k =>
    rw [hd] at hn hp
    simp only [Except.ok.injEq, Prod.mk.injEq] at hn
    obtain ⟨rfl, rfl⟩ := hn
    rw [show p + k - p = k by omega]
    exact hp
theorem rnumber_bad (ad : Option Addr) (cap p : Nat) (f : Int × Int) (b : List Int) (w : World) (h : BytesAt ad b w) (hbm : b.length ≤ maxLen) (hp : p ≤ 1000000) (hn : numAt b p = .error f) :
    Calls Try.prog 43 #[.slice ad b.length cap, .int .i64 p] w fun e w' => e = .returned (.tuple #[.int .i64 0, .int .i64 0, .agg #[.int .i64 f.1, .int .i64 f.2]]) ∧ Below w.heap.size w w' := by
  refine (rnumber_dec ad cap p b w h hbm hp).mono fun e w' hp => ?_
  unfold numAt at hn
  cases hd : decN b p 9 0 0 with
  | short => rw [hd] at hn hp; simp only [Except.error.injEq] at hn; subst hn; exact hp
  | form => rw [hd] at hn hp; simp only [Except.error.injEq] at hn; subst hn; exact hp
  | num u k => rw [hd] at hn; cases hn
end Go.Proofs.Ytdacgjjkgagjhac
