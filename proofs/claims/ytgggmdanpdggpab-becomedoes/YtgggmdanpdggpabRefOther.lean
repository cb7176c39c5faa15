/- gessoref3.other: what a reference becomes, as the document says. -/
import Derived.Test.YtgggmdanpdggpabRefReach
import Derived.Test.YtgggmdanpdggpabBecomePlain
namespace Go.Proofs.Ytgggmdanpdggpab
open Go.RowKit

theorem bec_append (both : Bool) (o : Int) : ∀ (L M : List (Int × Int)), becAt both (L ++ M) o = (becAt both L o).or (becAt both M o)
  | [], M => by simp [becAt]
  | (x, y) :: L, M => by
    rw [List.cons_append, becAt, becAt, bec_append both o L M]
    split
    · rfl
    · split <;> rfl
theorem zip_split {F T : List Int} {i : Nat} (hl : F.length = T.length) (hi : i < F.length) : F.zip T = (F.zip T).take i ++ (wd F i, wd T i) :: (F.zip T).drop (i + 1) := by
  have h := List.take_append_drop (i + 1) (F.zip T)
  rw [zip_snoc hl hi, List.append_assoc] at h
  exact h.symm
theorem other_here {both : Bool} {F T : List Int} {i : Nat} {o : Int} (hl : F.length = T.length) (hi : i < F.length) (h : becAt both ((F.zip T).take i) o = none) (e : o = wd F i) : otherP both (F.zip T) o = wd T i := by
  unfold otherP
  rw [zip_split hl hi, bec_append, h, becAt, if_pos e]; rfl
theorem other_there {F T : List Int} {i : Nat} {o : Int} (hl : F.length = T.length) (hi : i < F.length) (h : becAt true ((F.zip T).take i) o = none) (e1 : o ≠ wd F i) (e : o = wd T i) : otherP true (F.zip T) o = wd F i := by
  unfold otherP
  rw [zip_split hl hi, bec_append, h, becAt, if_neg e1, if_pos ⟨rfl, e⟩]; rfl
theorem bec_next {both : Bool} {F T : List Int} {i : Nat} {o : Int} (hl : F.length = T.length) (hi : i < F.length) (h : becAt both ((F.zip T).take i) o = none) (e1 : o ≠ wd F i) (e : both = true → o ≠ wd T i) : becAt both ((F.zip T).take (i + 1)) o = none := by
  rw [zip_snoc hl hi, bec_snoc, h, if_neg e1, if_neg (fun h => e h.1 h.2)]; rfl
theorem other_stays {both : Bool} {F T : List Int} {o : Int} (hl : F.length = T.length) (h : becAt both ((F.zip T).take F.length) o = none) : otherP both (F.zip T) o = o := by
  rw [zip_all hl] at h; unfold otherP; rw [h]; rfl

set_option maxHeartbeats 2000000 in
theorem rother_any (F T : List Int) (fad tad : Option Addr) (fc tc : Nat) (both : Bool) (o : Int) (w : World) (hF : RootsAt fad F w) (hT : RootsAt tad T w) (hl : F.length = T.length) (hn : F.length ≤ 5000) :
    Calls Try.prog 41 #[.int .i64 o, .slice fad F.length fc, .slice tad T.length tc, .bool both] w fun e w' => e = .returned (.int .i64 (otherP both (F.zip T) o)) ∧ w' = w := by
  have HF : Hid (RootsAt fad F w) := hF
  have HT : Hid (RootsAt tad T w) := hT
  have HL : Hid (F.length = T.length) := hl
  rw [← hl]
  clear hF hT hl
  go_enter Try.func41, Try.ntmps41
  go_wp2_with fail
  go_loopw [9] (fun s9 wr => ∃ (i : Nat), s9 = .int .i64 i ∧ i ≤ F.length ∧ Hid (becAt both ((F.zip T).take i) o = none) ∧ wr = w) (fun s9 _ => F.length - (intOf s9).toNat)
  case atStart => exact ⟨0, rfl, Nat.zero_le _, rfl, rfl⟩
  case round =>
    obtain ⟨i, rfl, hi, HN, rfl⟩ := hrel
    by_cases hlt : i < F.length
    · obtain ⟨fb, fo, hfad, hrF⟩ := HF.out (by omega)
      obtain ⟨tb, to, htad, hrT⟩ := HT.out (by rw [← HL.out]; omega)
      subst hfad htad
      have hcF := hrF.cell i hlt
      have hcT := hrT.cell i (by rw [← HL.out]; exact hlt)
      have hii : (i : Int) < (F.length : Int) := by omega
      clear hrF hrT
      by_cases e1 : o = wd F i
      · have H : Hid (otherP both (F.zip T) o = wd T i) := other_here HL.out hlt HN.out e1
        have hb1 : (o == wd F i) = true := by simpa using e1
        clear e1
        go_wp2_with fail
        go_ret
        exact ⟨by rw [H.out]; rfl, rfl⟩
      · have hb1 : (o == wd F i) = false := by simpa using e1
        cases both with
        | false =>
          have H : Hid (becAt false ((F.zip T).take (i + 1)) o = none) := bec_next HL.out hlt HN.out e1 (fun h => by cases h)
          clear e1
          go_wp2_with fail
          go_roundw
          case rel => exact ⟨i + 1, by first | rfl | simp, by omega, H, by first | rfl | trivial⟩
          case measure => simp [intOf]; omega
        | true =>
          by_cases e2 : o = wd T i
          · have H : Hid (otherP true (F.zip T) o = wd F i) := other_there HL.out hlt HN.out e1 e2
            have hb2 : (o == wd T i) = true := by simpa using e2
            clear e1 e2
            go_wp2_with fail
            go_ret
            exact ⟨by rw [H.out]; rfl, rfl⟩
          · have H : Hid (becAt true ((F.zip T).take (i + 1)) o = none) := bec_next HL.out hlt HN.out e1 (fun _ => e2)
            have hb2 : (o == wd T i) = false := by simpa using e2
            clear e1 e2
            go_wp2_with fail
            go_roundw
            case rel => exact ⟨i + 1, by first | rfl | simp, by omega, H, by first | rfl | trivial⟩
            case measure => simp [intOf]; omega
    · have he : i = F.length := by omega
      subst he
      have H : Hid (otherP both (F.zip T) o = o) := other_stays HL.out HN.out
      go_wp2_with fail
      go_ret
      exact ⟨by rw [H.out]; rfl, rfl⟩
end Go.Proofs.Ytgggmdanpdggpab
