/- slices.EqualFunc by the three ways of a pairing. -/
import Derived.Test.YtpapaadclkdbkaaWeak
namespace Go.Proofs.Ytpapaadclkdbkaa
open Go.RowKit

/-- Numbers that lie apart from what a pairing turns. -/
def LiesApart (m1 m2 Q : Nat) (vp : Value) (rad : Option Addr) (xs : List Int) (w : World) : Prop := 0 < xs.length → ∃ rb ro, rad = some ⟨rb, ro, none⟩ ∧ Row w rb ro xs ∧ Apart m1 m2 Q vp rb
theorem alike_length (W V : List Int) (P : Pairs) (x y : Int) : (alikeP W V P x y).2.length ≤ P.length + 1 := by
  unfold alikeP; split
  · split
    · exact Nat.le_succ _
    · simp
  · exact Nat.le_succ _

set_option maxHeartbeats 4000000 in
theorem eq_alike_some (W V xs ys : List Int) (b cap bm b' cap' bm' L m1 m2 Q : Nat) (P : Pairs) (vp : Value) (D1 D2 : DataW Unit) (rb ro rc sb so sc : Nat) (w : World) (h : Pairing W V b cap bm b' cap' bm' L m1 m2 Q P vp D1 D2 w) (hx : Row w rb ro xs) (hy : Row w sb so ys) (ax : Apart m1 m2 Q vp rb) (ay : Apart m1 m2 Q vp sb) (hlen : xs.length = ys.length) (hl : P.length + xs.length ≤ 100000) :
    Calls Try.prog 68 #[.slice (some ⟨rb, ro, none⟩) xs.length rc, .slice (some ⟨sb, so, none⟩) ys.length sc, .func (.func 69) #[.pointer (some ⟨Q, 0, none⟩)] #[]] w (PairAns W V b cap bm b' cap' bm' L m1 m2 Q (eqP (alikeP W V) P xs ys) vp w) := by
  unfold PairAns
  generalize hF : eqP (alikeP W V) P xs ys = F
  have HF : Hid (eqP (alikeP W V) P xs ys = F) := hF
  have hbl : (((xs.length : Nat) : Int) != ((ys.length : Nat) : Int)) = false := by simp [hlen]
  have HL : Hid (xs.length = ys.length) := hlen
  have hbig := h.big
  clear hF hlen
  go_enter Try.func68, Try.ntmps68
  go_wp2_with fail
  go_loopw [17] (fun s wr => ∃ (k : Nat) (P' : Pairs) (vp' : Value) (D1' D2' : DataW Unit), s = .int .i64 k ∧ k ≤ xs.length ∧ Hid (F = eqP (alikeP W V) P' (xs.drop k) (ys.drop k)) ∧ P'.length ≤ P.length + k ∧ Pairing W V b cap bm b' cap' bm' L m1 m2 Q P' vp' D1' D2' wr ∧ Moved L m1 m2 Q vp vp' w wr ∧ Row wr rb ro xs ∧ Row wr sb so ys ∧ Apart m1 m2 Q vp' rb ∧ Apart m1 m2 Q vp' sb) (fun s _ => xs.length - (intOf s).toNat)
  case atStart => exact ⟨0, P, vp, D1, D2, rfl, Nat.zero_le _, HF.out.symm, by omega, h, Moved.same (Below.refl _ _) hbig, hx, hy, ax, ay⟩
  case round =>
    clear h hx hy ax ay HF
    obtain ⟨k, P', vp', D1', D2', rfl, hk, hck, hpl, h, hM, hx, hy, ax, ay⟩ := hrel
    by_cases hlt : k < xs.length
    · have hlt' : k < ys.length := by have := HL.out; omega
      have cx := hx.cell k hlt
      have cy := hy.cell k hlt'
      have wx := hx.wf k
      have wy := hy.wf k
      have hii : (k : Int) < (ys.length : Int) := by omega
      have hck' : F = if ((alikeP W V) P' (wd xs k) (wd ys k)).1 = true then eqP (alikeP W V) ((alikeP W V) P' (wd xs k) (wd ys k)).2 (xs.drop (k + 1)) (ys.drop (k + 1)) else (false, ((alikeP W V) P' (wd xs k) (wd ys k)).2) := by have := hck.out; rw [drop_cons hlt, drop_cons hlt', eqP_cons] at this; exact this
      have hgr : ((alikeP W V) P' (wd xs k) (wd ys k)).2.length ≤ P'.length + 1 := alike_length _ _ _ _ _
      clear hck
      cases hr : ((alikeP W V) P' (wd xs k) (wd ys k)).1 with
      | true =>
        have Hk : Hid (F = eqP (alikeP W V) ((alikeP W V) P' (wd xs k) (wd ys k)).2 (xs.drop (k + 1)) (ys.drop (k + 1))) := by rw [if_pos hr] at hck'; exact hck'
        clear hck'
        go_wp2_with (go_at_call 69; refine (alike_any W V b cap bm b' cap' bm' L m1 m2 Q P' vp' D1' D2' _ _ _ h wx wy (by omega)).mono ?_; rintro e w2 ⟨rfl, vp2, D12, D22, hP2, hM2⟩)
        obtain ⟨hx2, ax2⟩ := hM2.keeps hx ax
        obtain ⟨hy2, ay2⟩ := hM2.keeps hy ay
        go_roundw
        case rel => exact ⟨k + 1, _, vp2, D12, D22, by first | rfl | simp, by omega, Hk, by omega, hP2, hM.trans hM2, hx2, hy2, ax2, ay2⟩
        case measure => simp [intOf]; omega
      | false =>
        have Hk : Hid (F = (false, ((alikeP W V) P' (wd xs k) (wd ys k)).2)) := by rw [if_neg (by rw [hr]; decide)] at hck'; exact hck'
        clear hck'
        go_wp2_with (go_at_call 69; refine (alike_any W V b cap bm b' cap' bm' L m1 m2 Q P' vp' D1' D2' _ _ _ h wx wy (by omega)).mono ?_; rintro e w2 ⟨rfl, vp2, D12, D22, hP2, hM2⟩)
        go_ret
        rw [Hk.out]
        exact ⟨rfl, vp2, D12, D22, hP2, hM.trans hM2⟩
    · have Hk : Hid (F = (true, P')) := by
        have := hck.out
        rw [List.drop_eq_nil_of_le (by omega), List.drop_eq_nil_of_le (by have := HL.out; omega)] at this; exact this
      clear hck
      go_wp2_with fail
      go_ret
      rw [Hk.out]
      exact ⟨rfl, vp', D1', D2', h, hM⟩

theorem eq_alike_none (W V : List Int) (b cap bm b' cap' bm' L m1 m2 Q : Nat) (P : Pairs) (vp : Value) (D1 D2 : DataW Unit) (rad sad : Option Addr) (rc sc : Nat) (w : World) (h : Pairing W V b cap bm b' cap' bm' L m1 m2 Q P vp D1 D2 w) :
    Calls Try.prog 68 #[.slice rad 0 rc, .slice sad 0 sc, .func (.func 69) #[.pointer (some ⟨Q, 0, none⟩)] #[]] w (PairAns W V b cap bm b' cap' bm' L m1 m2 Q (true, P) vp w) := by
  go_enter Try.func68, Try.ntmps68
  go_wp2
  refine wp_loop_rounds 1 ?_
  rw [rounds_succ]
  go_wp2
  go_ret
  exact ⟨rfl, vp, D1, D2, h, Moved.same (Below.refl _ _) h.big⟩
theorem eq_alike_len (W V : List Int) (b cap bm b' cap' bm' L m1 m2 Q n n' : Nat) (P : Pairs) (vp : Value) (D1 D2 : DataW Unit) (rad sad : Option Addr) (rc sc : Nat) (w : World) (h : Pairing W V b cap bm b' cap' bm' L m1 m2 Q P vp D1 D2 w) (hn : n ≠ n') :
    Calls Try.prog 68 #[.slice rad n rc, .slice sad n' sc, .func (.func 69) #[.pointer (some ⟨Q, 0, none⟩)] #[]] w (PairAns W V b cap bm b' cap' bm' L m1 m2 Q (false, P) vp w) := by
  have hbl : (((n : Nat) : Int) != ((n' : Nat) : Int)) = true := by simp; omega
  clear hn
  go_enter Try.func68, Try.ntmps68
  go_wp2
  go_ret
  exact ⟨rfl, vp, D1, D2, h, Moved.same (Below.refl _ _) h.big⟩
/-- EqualFunc by alike. -/
theorem eq_alike (W V xs ys : List Int) (b cap bm b' cap' bm' L m1 m2 Q : Nat) (P : Pairs) (vp : Value) (D1 D2 : DataW Unit) (rad sad : Option Addr) (rc sc : Nat) (w : World) (h : Pairing W V b cap bm b' cap' bm' L m1 m2 Q P vp D1 D2 w) (hx : LiesApart m1 m2 Q vp rad xs w) (hy : LiesApart m1 m2 Q vp sad ys w) (hl : P.length + xs.length ≤ 100000) :
    Calls Try.prog 68 #[.slice rad xs.length rc, .slice sad ys.length sc, .func (.func 69) #[.pointer (some ⟨Q, 0, none⟩)] #[]] w (PairAns W V b cap bm b' cap' bm' L m1 m2 Q (eqF (alikeP W V) P xs ys) vp w) := by
  unfold eqF
  by_cases hlen : xs.length = ys.length
  · rw [if_pos hlen]
    by_cases h0 : 0 < xs.length
    · obtain ⟨rb, ro, rfl, hrx, ax⟩ := hx h0
      obtain ⟨sb, so, rfl, hry, ay⟩ := hy (by omega)
      exact eq_alike_some W V xs ys b cap bm b' cap' bm' L m1 m2 Q P vp D1 D2 rb ro rc sb so sc w h hrx hry ax ay hlen hl
    · have e1 : xs = [] := List.eq_nil_of_length_eq_zero (by omega)
      have e2 : ys = [] := List.eq_nil_of_length_eq_zero (by omega)
      subst e1 e2
      exact eq_alike_none W V b cap bm b' cap' bm' L m1 m2 Q P vp D1 D2 rad sad rc sc w h
  · rw [if_neg hlen]
    exact eq_alike_len W V b cap bm b' cap' bm' L m1 m2 Q xs.length ys.length P vp D1 D2 rad sad rc sc w h hlen

set_option maxHeartbeats 4000000 in
theorem eq_same_some (W V xs ys : List Int) (b cap bm b' cap' bm' L m1 m2 Q : Nat) (P : Pairs) (vp : Value) (D1 D2 : DataW Unit) (rb ro rc sb so sc : Nat) (w : World) (h : Pairing W V b cap bm b' cap' bm' L m1 m2 Q P vp D1 D2 w) (hx : Row w rb ro xs) (hy : Row w sb so ys) (ax : Apart m1 m2 Q vp rb) (ay : Apart m1 m2 Q vp sb) (hlen : xs.length = ys.length) (hl : P.length + xs.length ≤ 100000) :
    Calls Try.prog 68 #[.slice (some ⟨rb, ro, none⟩) xs.length rc, .slice (some ⟨sb, so, none⟩) ys.length sc, .func (.func 95) #[.pointer (some ⟨Q, 0, none⟩)] #[]] w (PairAns W V b cap bm b' cap' bm' L m1 m2 Q (eqP sameP P xs ys) vp w) := by
  unfold PairAns
  generalize hF : eqP sameP P xs ys = F
  have HF : Hid (eqP sameP P xs ys = F) := hF
  have hbl : (((xs.length : Nat) : Int) != ((ys.length : Nat) : Int)) = false := by simp [hlen]
  have HL : Hid (xs.length = ys.length) := hlen
  have hbig := h.big
  clear hF hlen
  go_enter Try.func68, Try.ntmps68
  go_wp2_with fail
  go_loopw [17] (fun s wr => ∃ (k : Nat) (P' : Pairs) (vp' : Value) (D1' D2' : DataW Unit), s = .int .i64 k ∧ k ≤ xs.length ∧ Hid (F = eqP sameP P' (xs.drop k) (ys.drop k)) ∧ P'.length ≤ P.length + k ∧ Pairing W V b cap bm b' cap' bm' L m1 m2 Q P' vp' D1' D2' wr ∧ Moved L m1 m2 Q vp vp' w wr ∧ Row wr rb ro xs ∧ Row wr sb so ys ∧ Apart m1 m2 Q vp' rb ∧ Apart m1 m2 Q vp' sb) (fun s _ => xs.length - (intOf s).toNat)
  case atStart => exact ⟨0, P, vp, D1, D2, rfl, Nat.zero_le _, HF.out.symm, by omega, h, Moved.same (Below.refl _ _) hbig, hx, hy, ax, ay⟩
  case round =>
    clear h hx hy ax ay HF
    obtain ⟨k, P', vp', D1', D2', rfl, hk, hck, hpl, h, hM, hx, hy, ax, ay⟩ := hrel
    by_cases hlt : k < xs.length
    · have hlt' : k < ys.length := by have := HL.out; omega
      have cx := hx.cell k hlt
      have cy := hy.cell k hlt'
      have wx := hx.wf k
      have wy := hy.wf k
      have hii : (k : Int) < (ys.length : Int) := by omega
      have hck' : F = if (sameP P' (wd xs k) (wd ys k)).1 = true then eqP sameP (sameP P' (wd xs k) (wd ys k)).2 (xs.drop (k + 1)) (ys.drop (k + 1)) else (false, (sameP P' (wd xs k) (wd ys k)).2) := by have := hck.out; rw [drop_cons hlt, drop_cons hlt', eqP_cons] at this; exact this
      have hgr : (sameP P' (wd xs k) (wd ys k)).2.length ≤ P'.length + 1 := Nat.le_succ _
      clear hck
      cases hr : (sameP P' (wd xs k) (wd ys k)).1 with
      | true =>
        have Hk : Hid (F = eqP sameP (sameP P' (wd xs k) (wd ys k)).2 (xs.drop (k + 1)) (ys.drop (k + 1))) := by rw [if_pos hr] at hck'; exact hck'
        clear hck'
        go_wp2_with (go_at_call 95; refine (same_any W V b cap bm b' cap' bm' L m1 m2 Q P' vp' D1' D2' _ _ _ h).mono ?_; rintro e w2 ⟨rfl, vp2, D12, D22, hP2, hM2⟩)
        obtain ⟨hx2, ax2⟩ := hM2.keeps hx ax
        obtain ⟨hy2, ay2⟩ := hM2.keeps hy ay
        go_roundw
        case rel => exact ⟨k + 1, _, vp2, D12, D22, by first | rfl | simp, by omega, Hk, by omega, hP2, hM.trans hM2, hx2, hy2, ax2, ay2⟩
        case measure => simp [intOf]; omega
      | false =>
        have Hk : Hid (F = (false, (sameP P' (wd xs k) (wd ys k)).2)) := by rw [if_neg (by rw [hr]; decide)] at hck'; exact hck'
        clear hck'
        go_wp2_with (go_at_call 95; refine (same_any W V b cap bm b' cap' bm' L m1 m2 Q P' vp' D1' D2' _ _ _ h).mono ?_; rintro e w2 ⟨rfl, vp2, D12, D22, hP2, hM2⟩)
        go_ret
        rw [Hk.out]
        exact ⟨rfl, vp2, D12, D22, hP2, hM.trans hM2⟩
    · have Hk : Hid (F = (true, P')) := by
        have := hck.out
        rw [List.drop_eq_nil_of_le (by omega), List.drop_eq_nil_of_le (by have := HL.out; omega)] at this; exact this
      clear hck
      go_wp2_with fail
      go_ret
      rw [Hk.out]
      exact ⟨rfl, vp', D1', D2', h, hM⟩

theorem eq_same_none (W V : List Int) (b cap bm b' cap' bm' L m1 m2 Q : Nat) (P : Pairs) (vp : Value) (D1 D2 : DataW Unit) (rad sad : Option Addr) (rc sc : Nat) (w : World) (h : Pairing W V b cap bm b' cap' bm' L m1 m2 Q P vp D1 D2 w) :
    Calls Try.prog 68 #[.slice rad 0 rc, .slice sad 0 sc, .func (.func 95) #[.pointer (some ⟨Q, 0, none⟩)] #[]] w (PairAns W V b cap bm b' cap' bm' L m1 m2 Q (true, P) vp w) := by
  go_enter Try.func68, Try.ntmps68
  go_wp2
  refine wp_loop_rounds 1 ?_
  rw [rounds_succ]
  go_wp2
  go_ret
  exact ⟨rfl, vp, D1, D2, h, Moved.same (Below.refl _ _) h.big⟩
theorem eq_same_len (W V : List Int) (b cap bm b' cap' bm' L m1 m2 Q n n' : Nat) (P : Pairs) (vp : Value) (D1 D2 : DataW Unit) (rad sad : Option Addr) (rc sc : Nat) (w : World) (h : Pairing W V b cap bm b' cap' bm' L m1 m2 Q P vp D1 D2 w) (hn : n ≠ n') :
    Calls Try.prog 68 #[.slice rad n rc, .slice sad n' sc, .func (.func 95) #[.pointer (some ⟨Q, 0, none⟩)] #[]] w (PairAns W V b cap bm b' cap' bm' L m1 m2 Q (false, P) vp w) := by
  have hbl : (((n : Nat) : Int) != ((n' : Nat) : Int)) = true := by simp; omega
  clear hn
  go_enter Try.func68, Try.ntmps68
  go_wp2
  go_ret
  exact ⟨rfl, vp, D1, D2, h, Moved.same (Below.refl _ _) h.big⟩
/-- EqualFunc by same. -/
theorem eq_same (W V xs ys : List Int) (b cap bm b' cap' bm' L m1 m2 Q : Nat) (P : Pairs) (vp : Value) (D1 D2 : DataW Unit) (rad sad : Option Addr) (rc sc : Nat) (w : World) (h : Pairing W V b cap bm b' cap' bm' L m1 m2 Q P vp D1 D2 w) (hx : LiesApart m1 m2 Q vp rad xs w) (hy : LiesApart m1 m2 Q vp sad ys w) (hl : P.length + xs.length ≤ 100000) :
    Calls Try.prog 68 #[.slice rad xs.length rc, .slice sad ys.length sc, .func (.func 95) #[.pointer (some ⟨Q, 0, none⟩)] #[]] w (PairAns W V b cap bm b' cap' bm' L m1 m2 Q (eqF sameP P xs ys) vp w) := by
  unfold eqF
  by_cases hlen : xs.length = ys.length
  · rw [if_pos hlen]
    by_cases h0 : 0 < xs.length
    · obtain ⟨rb, ro, rfl, hrx, ax⟩ := hx h0
      obtain ⟨sb, so, rfl, hry, ay⟩ := hy (by omega)
      exact eq_same_some W V xs ys b cap bm b' cap' bm' L m1 m2 Q P vp D1 D2 rb ro rc sb so sc w h hrx hry ax ay hlen hl
    · have e1 : xs = [] := List.eq_nil_of_length_eq_zero (by omega)
      have e2 : ys = [] := List.eq_nil_of_length_eq_zero (by omega)
      subst e1 e2
      exact eq_same_none W V b cap bm b' cap' bm' L m1 m2 Q P vp D1 D2 rad sad rc sc w h
  · rw [if_neg hlen]
    exact eq_same_len W V b cap bm b' cap' bm' L m1 m2 Q xs.length ys.length P vp D1 D2 rad sad rc sc w h hlen

set_option maxHeartbeats 4000000 in
theorem eq_weak_some (W V xs ys : List Int) (b cap bm b' cap' bm' L m1 m2 Q : Nat) (P : Pairs) (vp : Value) (D1 D2 : DataW Unit) (rb ro rc sb so sc : Nat) (w : World) (h : Pairing W V b cap bm b' cap' bm' L m1 m2 Q P vp D1 D2 w) (hx : Row w rb ro xs) (hy : Row w sb so ys) (hlen : xs.length = ys.length) (hl : xs.length ≤ 100000) :
    Calls Try.prog 68 #[.slice (some ⟨rb, ro, none⟩) xs.length rc, .slice (some ⟨sb, so, none⟩) ys.length sc, .func (.func 96) #[.pointer (some ⟨Q, 0, none⟩)] #[]] w (StillAns (eqP (weakP W V) P xs ys) w) := by
  unfold StillAns
  generalize hF : eqP (weakP W V) P xs ys = F
  have HF : Hid (eqP (weakP W V) P xs ys = F) := hF
  have hbl : (((xs.length : Nat) : Int) != ((ys.length : Nat) : Int)) = false := by simp [hlen]
  have HL : Hid (xs.length = ys.length) := hlen
  clear hF hlen
  go_enter Try.func68, Try.ntmps68
  go_wp2_with fail
  go_loopw [17] (fun s wr => ∃ (k : Nat), s = .int .i64 k ∧ k ≤ xs.length ∧ Hid (F = eqP (weakP W V) P (xs.drop k) (ys.drop k)) ∧ Below w.heap.size w wr) (fun s _ => xs.length - (intOf s).toNat)
  case atStart => exact ⟨0, rfl, Nat.zero_le _, HF.out.symm, Below.refl _ _⟩
  case round =>
    clear HF
    obtain ⟨k, rfl, hk, hck, hB⟩ := hrel
    have hp := h.same hB
    have hx2 := hx.same hB
    have hy2 := hy.same hB
    by_cases hlt : k < xs.length
    · have hlt' : k < ys.length := by have := HL.out; omega
      have cx := hx2.cell k hlt
      have cy := hy2.cell k hlt'
      have wx := hx.wf k
      have wy := hy.wf k
      have hii : (k : Int) < (ys.length : Int) := by omega
      have hck' : F = if (weakP W V P (wd xs k) (wd ys k)).1 = true then eqP (weakP W V) P (xs.drop (k + 1)) (ys.drop (k + 1)) else (false, P) := by have := hck.out; rw [drop_cons hlt, drop_cons hlt', eqP_cons, weakP_same.1] at this; exact this
      clear hck
      cases hr : (weakP W V P (wd xs k) (wd ys k)).1 with
      | true =>
        have Hk : Hid (F = eqP (weakP W V) P (xs.drop (k + 1)) (ys.drop (k + 1))) := by rw [if_pos hr] at hck'; exact hck'
        clear hck'
        go_wp2_with (go_at_call 96; refine (weak_still W V b cap bm b' cap' bm' L m1 m2 Q P vp D1 D2 _ _ _ hp wx wy).mono ?_; rintro e w2 ⟨rfl, hb2⟩)
        go_roundw
        case rel => exact ⟨k + 1, by first | rfl | simp, by omega, Hk, hB.trans (hb2.mono hB.size)⟩
        case measure => simp [intOf]; omega
      | false =>
        have Hk : Hid (F = (false, P)) := by rw [if_neg (by rw [hr]; decide)] at hck'; exact hck'
        clear hck'
        go_wp2_with (go_at_call 96; refine (weak_still W V b cap bm b' cap' bm' L m1 m2 Q P vp D1 D2 _ _ _ hp wx wy).mono ?_; rintro e w2 ⟨rfl, hb2⟩)
        go_ret
        rw [Hk.out]
        exact ⟨rfl, hB.trans (hb2.mono hB.size)⟩
    · have Hk : Hid (F = (true, P)) := by
        have := hck.out
        rw [List.drop_eq_nil_of_le (by omega), List.drop_eq_nil_of_le (by have := HL.out; omega)] at this; exact this
      clear hck
      go_wp2_with fail
      go_ret
      rw [Hk.out]
      exact ⟨rfl, hB⟩
theorem eq_weak_none (P : Pairs) (Q : Nat) (rad sad : Option Addr) (rc sc : Nat) (w : World) :
    Calls Try.prog 68 #[.slice rad 0 rc, .slice sad 0 sc, .func (.func 96) #[.pointer (some ⟨Q, 0, none⟩)] #[]] w (StillAns (true, P) w) := by
  go_enter Try.func68, Try.ntmps68
  go_wp2
  refine wp_loop_rounds 1 ?_
  rw [rounds_succ]
  go_wp2
  go_ret
  exact ⟨rfl, Below.refl _ _⟩
theorem eq_weak_len (P : Pairs) (Q n n' : Nat) (rad sad : Option Addr) (rc sc : Nat) (w : World) (hn : n ≠ n') :
    Calls Try.prog 68 #[.slice rad n rc, .slice sad n' sc, .func (.func 96) #[.pointer (some ⟨Q, 0, none⟩)] #[]] w (StillAns (false, P) w) := by
  have hbl : (((n : Nat) : Int) != ((n' : Nat) : Int)) = true := by simp; omega
  clear hn
  go_enter Try.func68, Try.ntmps68
  go_wp2
  go_ret
  exact ⟨rfl, Below.refl _ _⟩
/-- EqualFunc by weaklyAlike. -/
theorem eq_weak (W V xs ys : List Int) (b cap bm b' cap' bm' L m1 m2 Q : Nat) (P : Pairs) (vp : Value) (D1 D2 : DataW Unit) (rad sad : Option Addr) (rc sc : Nat) (w : World) (h : Pairing W V b cap bm b' cap' bm' L m1 m2 Q P vp D1 D2 w) (hx : RootsAt rad xs w) (hy : RootsAt sad ys w) (hl : xs.length ≤ 100000) :
    Calls Try.prog 68 #[.slice rad xs.length rc, .slice sad ys.length sc, .func (.func 96) #[.pointer (some ⟨Q, 0, none⟩)] #[]] w (StillAns (eqF (weakP W V) P xs ys) w) := by
  unfold eqF
  by_cases hlen : xs.length = ys.length
  · rw [if_pos hlen]
    by_cases h0 : 0 < xs.length
    · obtain ⟨rb, ro, rfl, hrx⟩ := hx h0
      obtain ⟨sb, so, rfl, hry⟩ := hy (by omega)
      exact eq_weak_some W V xs ys b cap bm b' cap' bm' L m1 m2 Q P vp D1 D2 rb ro rc sb so sc w h hrx hry hlen hl
    · have e1 : xs = [] := List.eq_nil_of_length_eq_zero (by omega)
      have e2 : ys = [] := List.eq_nil_of_length_eq_zero (by omega)
      subst e1 e2
      exact eq_weak_none P Q rad sad rc sc w
  · rw [if_neg hlen]
    exact eq_weak_len P Q xs.length ys.length rad sad rc sc w hlen

end Go.Proofs.Ytpapaadclkdbkaa
