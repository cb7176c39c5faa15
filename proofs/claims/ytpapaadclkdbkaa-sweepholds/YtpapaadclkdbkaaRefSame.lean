/- gessoref3.same and gessoref3.hashed. -/
import Derived.Test.YtpapaadclkdbkaaRefReach
import Derived.Test.YtpapaadclkdbkaaAlikePlain2
import Derived.Test.YtpapaadclkdbkaaRefLoop
import Derived.Test.YtpapaadclkdbkaaFault
import Derived.BigQuiet
namespace Go.Proofs.Ytpapaadclkdbkaa
open Go.RowKit

/-- A heap and its marks, where they lie. -/
structure Sits (w : World) (b off oa : Nat) (W : List Int) (A : List Bool) : Prop where
  row : Row w b off W
  marks : Marks w oa W.length W.length A
  fine : Fine W
  mark : ∀ k, bt A k = true → k ∈ places W 2
theorem Sits.drewN {w : World} {b off oa : Nat} {W : List Int} {A : List Bool} (h : Sits w b off oa W A) (n : Nat) : Sits (w.drewN n) b off oa W A := ⟨h.row.drewN n, h.marks, h.fine, h.mark⟩
theorem Sits.same {w w' : World} {b off oa : Nat} {W : List Int} {A : List Bool} (h : Sits w b off oa W A) (hb : Below w.heap.size w w') : Sits w' b off oa W A := ⟨h.row.same hb, h.marks.below hb (own_lt h.marks), h.fine, h.mark⟩
theorem Fine.head {W : List Int} (h : Fine W) {p : Nat} (hp : p ∈ places W 2) : p + 3 ≤ W.length := by have := h.room p hp; omega

theorem ok_place {W : List Int} {o : Int} (h : okRef W o) (hk : kindOf o = 3) : ∃ p : Nat, o = 2 * (p : Int) ∧ p ∈ places W 2 ∧ pl2 o = p := by
  obtain ⟨p, h1, h2, _, h4⟩ := thing_ref (ok_thing h hk)
  exact ⟨p, h1, h2, h4⟩

set_option maxHeartbeats 1000000 in
theorem rsame_any (W V : List Int) (A B : List Bool) (b off cap oa b' off' cap' ob : Nat) (o q : Int) (w : World) (hA : Sits w b off oa W A) (hB : Sits w b' off' ob V B) (ho : okRef W o) (hq : okRef V q) :
    Calls Try.prog 42 #[.slice (some ⟨b, off, none⟩) W.length cap, sl oa W.length W.length, .int .i64 o, .slice (some ⟨b', off', none⟩) V.length cap', sl ob V.length V.length, .int .i64 q] w fun e w' => e = .returned (.bool (sameB W A V B o q)) ∧ ∃ m, w' = w.drewN m := by
  by_cases hk : kindOf o = 3
  · by_cases hk' : kindOf q = 3
    · obtain ⟨p, rfl, hp, hpe⟩ := ok_place ho hk
      obtain ⟨p', rfl, hp', hpe'⟩ := ok_place hq hk'
      have hs : sameB W A V B (2 * (p : Int)) (2 * (p' : Int)) = (bt A p && bt B p' && (wd W (p + 1) == wd V (p' + 1))) := by unfold sameB; rw [if_pos ⟨hk, hk'⟩, hpe, hpe']
      rw [hs]
      clear hs hpe hpe'
      have hf := hA.fine.head hp
      have hf' := hB.fine.head hp'
      have hw := hA.fine.few
      have hw' := hB.fine.few
      have h2p : 2 * (p : Int) / 2 = (p : Int) := by omega
      have h2p' : 2 * (p' : Int) / 2 = (p' : Int) := by omega
      have hca := hA.marks.cell (k := p) (by omega)
      have hcb := hB.marks.cell (k := p') (by omega)
      have hra := hA.row.cell (p + 1) (by omega)
      have hrb := hB.row.cell (p' + 1) (by omega)
      have i0 : (0 : Int) ≤ (p : Int) := by omega
      have i1 : (p : Int) < (W.length : Int) := by omega
      have i2 : (0 : Int) ≤ (p : Int) + 1 := by omega
      have i3 : (p : Int) + 1 < (W.length : Int) := by omega
      have j0 : (0 : Int) ≤ (p' : Int) := by omega
      have j1 : (p' : Int) < (V.length : Int) := by omega
      have j2 : (0 : Int) ≤ (p' : Int) + 1 := by omega
      have j3 : (p' : Int) + 1 < (V.length : Int) := by omega
      have t1 : ((p : Int) + 1).toNat = p + 1 := by omega
      have t1' : ((p' : Int) + 1).toNat = p' + 1 := by omega
      have w0 := wrap_id (x := (p : Int)) (by omega) (by omega)
      have w1 := wrap_id (x := (p : Int) + 1) (by omega) (by omega)
      have w0' := wrap_id (x := (p' : Int)) (by omega) (by omega)
      have w1' := wrap_id (x := (p' : Int) + 1) (by omega) (by omega)
      have kb : (kindOf (2 * (p : Int)) != 3) = false := by simp [hk]
      have kb' : (kindOf (2 * (p' : Int)) != 3) = false := by simp [hk']
      clear hk hk' ho hq
      have hways : bt A p = false ∨ (bt A p = true ∧ bt B p' = false) ∨ (bt A p = true ∧ bt B p' = true) := by cases bt A p <;> cases bt B p' <;> simp
      rcases hways with h1 | ⟨h1, h2⟩ | ⟨h1, h2⟩
      all_goals
        first | rw [h1] at hca ⊢ | skip
        first | rw [h2] at hcb ⊢ | skip
        go_enter Try.func42, Try.ntmps42
        go_wp2_with (go_at_call 53; refine (rkind_any _ _).mono ?_; rintro e w' ⟨rfl, rfl⟩)
        go_quiet (fail)
        go_wp2_with fail
        go_ret
        exact ⟨ret_bool (by simp), _, rfl⟩
    · have hs : sameB W A V B o q = (o == q) := by unfold sameB; rw [if_neg (fun h => hk' h.2)]
      rw [hs]
      have kb : (kindOf o != 3) = false := by simp [hk]
      have kb' : (kindOf q != 3) = true := by simpa using hk'
      clear hk hk' hs
      go_enter Try.func42, Try.ntmps42
      go_wp2_with (go_at_call 53; refine (rkind_any _ _).mono ?_; rintro e w' ⟨rfl, rfl⟩)
      go_ret
      exact ⟨rfl, 0, rfl⟩
  · have hs : sameB W A V B o q = (o == q) := by unfold sameB; rw [if_neg (fun h => hk h.1)]
    rw [hs]
    have kb : (kindOf o != 3) = true := by simpa using hk
    clear hk hs
    go_enter Try.func42, Try.ntmps42
    go_wp2_with (go_at_call 53; refine (rkind_any _ _).mono ?_; rintro e w' ⟨rfl, rfl⟩)
    go_ret
    exact ⟨rfl, 0, rfl⟩

/-- Where a hash was found, as a number. -/
def foundAt (r : Option Nat) : Int := match r with | some q => (q : Int) | none => -1

set_option maxHeartbeats 1000000 in
theorem rhashed_any (V : List Int) (B : List Bool) (b off cap ob : Nat) (h : Int) (w : World) (hB : Sits w b off ob V B) :
    Calls Try.prog 43 #[.slice (some ⟨b, off, none⟩) V.length cap, sl ob V.length V.length, .int .i64 h] w fun e w' => e = .returned (.int .i64 (foundAt (hashedB V B h 0 V.length))) ∧ w' = w := by
  generalize hF : hashedB V B h 0 V.length = F
  have HF : Hid (hashedB V B h 0 V.length = F) := hF
  have hfew := hB.fine.few
  clear hF
  go_enter Try.func43, Try.ntmps43
  go_wp2
  go_loop [7] (fun s => ∃ i : Nat, s = .int .i64 i ∧ i ≤ V.length ∧ Hid (F = hashedB V B h i (V.length - i))) (fun s => V.length - (intOf s).toNat)
  case atStart => exact ⟨0, rfl, Nat.zero_le _, HF.out.symm⟩
  case round =>
    obtain ⟨i, rfl, hi, hck⟩ := hrel
    by_cases hlt : i < V.length
    · have hci := hB.marks.cell hlt
      have hob := own_lt hB.marks
      have hn : V.length - i = (V.length - (i + 1)) + 1 := by omega
      have hii : (i : Int) < (V.length : Int) := by omega
      cases hb : bt B i with
      | false =>
        rw [hb] at hci
        have Hk : Hid (F = hashedB V B h (i + 1) (V.length - (i + 1))) := by
          have := hck.out
          rw [hn] at this
          unfold hashedB at this
          rw [if_neg (by rw [hb]; simp)] at this; exact this
        clear hck
        go_wp2
        go_round
        case rel => exact ⟨i + 1, by first | rfl | simp, by omega, Hk⟩
        case measure => simp [intOf]; omega
      | true =>
        rw [hb] at hci
        have hhead := hB.fine.head (hB.mark i hb)
        have hri := hB.row.cell (i + 1) (by omega)
        have hij : (i : Int) + 1 < (V.length : Int) := by omega
        by_cases he : wd V (i + 1) = h
        · have heb : (wd V (i + 1) == h) = true := by simp [he]
          have Hk : Hid (F = some i) := by
            have := hck.out
            rw [hn] at this
            unfold hashedB at this
            rw [if_pos ⟨hb, he⟩] at this; exact this
          clear hck he
          go_wp2
          go_ret
          exact ⟨by rw [Hk.out]; rfl, rfl⟩
        · have heb : (wd V (i + 1) == h) = false := by simpa using he
          have Hk : Hid (F = hashedB V B h (i + 1) (V.length - (i + 1))) := by
            have := hck.out
            rw [hn] at this
            unfold hashedB at this
            rw [if_neg (fun hc => he hc.2)] at this; exact this
          clear hck he
          go_wp2
          go_round
          case rel => exact ⟨i + 1, by first | rfl | simp, by omega, Hk⟩
          case measure => simp [intOf]; omega
    · have Hk : Hid (F = none) := by
        have := hck.out
        rw [show V.length - i = 0 by omega] at this; exact this
      clear hck
      go_wp2
      go_ret
      exact ⟨by rw [Hk.out]; rfl, rfl⟩

end Go.Proofs.Ytpapaadclkdbkaa
