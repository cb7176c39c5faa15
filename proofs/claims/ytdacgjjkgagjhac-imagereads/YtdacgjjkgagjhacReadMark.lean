/- image's reader: the mark, the end. -/
import Derived.Test.YtdacgjjkgagjhacReadList
import Derived.Deep.RegionWith
import Derived.RegionDies
namespace Go.Proofs.Ytdacgjjkgagjhac
open Go.RowKit

theorem grown_drawn {w w2 : World} {row : Option Nat} (h : w.drew.grownBy w2 row) : w.grownBy w2 row := grown_trans (grown_below (Below.refl _ _).drew) h
/-- What is wrong with the mark. -/
def markP (b : List Int) : Option (Int × Int) :=
  if (0 < b.length ∧ wd b 0 ≠ 71) ∨ (1 < b.length ∧ wd b 1 ≠ 69) then some (2, 0) else if b.length < 2 then some (8, (b.length : Int)) else none
def MarkEnd (rb : Nat) (ad : Option Addr) (cap : Nat) (b : List Int) (w : World) (e : Ending) (w' : World) : Prop :=
  match markP b with
  | some f => (e = .panicked [{ v := whyV f, recovered := false }] ∧ w.grownBy w' (some rb))
  | none => e = .returned (.tuple #[]) ∧ Rd w' rb ad cap b 2 ∧ w.grownBy w' (some rb)
theorem mark_bad {rb : Nat} {ad : Option Addr} {cap : Nat} {b : List Int} {w w' : World} {e : Ending} {f : Int × Int} (h : markP b = some f) (hp : GivesUp f rb w e w') : MarkEnd rb ad cap b w e w' := by
  unfold MarkEnd; rw [h]; exact hp

set_option maxHeartbeats 4000000 in
theorem mark_any' (rb cap : Nat) (ad : Option Addr) (b : List Int) (w : World) (h : Rd w rb ad cap b 0) :
    Calls Try.prog 40 #[.pointer (some ⟨rb, 0, none⟩)] w fun e w' => MarkEnd rb ad cap b w e w' := by
  have H : Hid (Rd w rb ad cap b 0) := h
  have hlt := h.lt
  clear h
  go_enter Try.func40, Try.ntmps40
  go_wp2_with fail
  go_loopw [3] (fun y wr => ∃ (k : Nat), y = .int .i64 k ∧ k ≤ 2 ∧ Hid (Rd wr rb ad cap b k) ∧ Hid ((0 < k → wd b 0 = 71) ∧ (1 < k → wd b 1 = 69)) ∧ w.grownBy wr (some rb)) (fun y _ => 2 - (intOf y).toNat)
  case atStart => exact ⟨0, rfl, by omega, H, ⟨fun h => by omega, fun h => by omega⟩, World.grownBy.refl _ _⟩
  case round =>
    rename_i wr
    obtain ⟨k, rfl, hk, hr, hw, hg⟩ := hrel
    have hle := hr.out.le
    have hx0 : ((({ data := #[71, 69] } : ByteArray)[0]'(by decide)).toNat : Int) = 71 := rfl
    have hx1 : ((({ data := #[71, 69] } : ByteArray)[1]'(by decide)).toNat : Int) = 69 := rfl
    have hk3 : k = 0 ∨ k = 1 ∨ k = 2 := by omega
    rcases hk3 with rfl | rfl | rfl
    · by_cases hend : 0 < b.length
      · have hby := wd_byte hr.out.byte 0
        have Hw : Hid (∀ w0, Rd w0 rb ad cap b 0 → Calls Try.prog 59 #[.pointer (some ⟨rb, 0, none⟩)] w0 fun e w' => e = .returned (.int .u8 (wd b 0)) ∧ Rd w' rb ad cap b (0 + 1) ∧ w0.grownBy w' (some rb)) := fun w0 h0 => next_more rb cap 0 ad b w0 h0 hend
        by_cases h0 : wd b 0 = 71
        · have Hn : Hid ((0 < 0 + 1 → wd b 0 = 71) ∧ (1 < 0 + 1 → wd b 1 = 69)) := ⟨fun _ => h0, fun _ => by omega⟩
          rw [h0] at Hw
          clear h0 hby
          go_wp2_with fail
          go_region_with (go_at_call 59; refine (Hw.out _ (by first | exact hr.out | exact hr.out.drewN _ | exact hr.out.same (Below.refl _ _).drew)).mono ?_; rintro e w2 ⟨rfl, hr2, hg2'⟩; have hg2 := grown_drawn hg2')
          all_goals go_wp2_with fail
          all_goals go_roundw
          all_goals first | exact ⟨0 + 1, by first | rfl | simp, by omega, hr2, Hn, grown_trans hg hg2⟩ | simp [intOf]
        · have Hf : Hid (markP b = some (2, 0)) := by unfold markP; rw [if_pos (Or.inl ⟨hend, h0⟩)]; exact rfl
          have hne : (wd b 0 != 71) = true := by simpa using h0
          generalize wd b 0 = c at *
          clear h0
          go_wp2_with fail
          go_region_with (go_at_call 59; refine (Hw.out _ (by first | exact hr.out | exact hr.out.drewN _ | exact hr.out.same (Below.refl _ _).drew)).mono ?_; rintro e w2 ⟨rfl, hr2, hg2'⟩; have hg2 := grown_drawn hg2')
          all_goals go_wp2_with fail
          all_goals exact ⟨rfl, mark_bad Hf.out ⟨rfl, grown_trans hg hg2⟩⟩
      · have hl : b.length = 0 := by omega
        have Hf : Hid (markP b = some (8, (b.length : Int))) := by
          have h1 : ¬ ((0 < b.length ∧ wd b 0 ≠ 71) ∨ (1 < b.length ∧ wd b 1 ≠ 69)) := by
            rintro (⟨h1, h2⟩ | ⟨h1, h2⟩)
            · omega
            · omega
          unfold markP; rw [if_neg h1, if_pos (by omega)]; exact rfl
        have hr' := hr.out
        rw [← hl] at hr'
        have Hr : Hid (Rd wr rb ad cap b b.length) := hr'
        have Hw : Hid (∀ w0, Rd w0 rb ad cap b b.length → Calls Try.prog 59 #[.pointer (some ⟨rb, 0, none⟩)] w0 fun e w' => GivesUp (8, b.length) rb w0 e w') := fun w0 h0 => next_end rb cap ad b w0 h0 _
        clear hr' hl hle hend
        go_wp2_with fail
        go_region_dies
        all_goals (refine (Hw.out _ (Hr.out.same (Below.refl _ _).drew)).mono ?_; rintro e w2 ⟨rfl, hg2⟩; exact ⟨rfl, mark_bad Hf.out ⟨rfl, grown_trans hg (grown_drawn hg2)⟩⟩)
    · by_cases hend : 1 < b.length
      · have hby := wd_byte hr.out.byte 1
        have Hw : Hid (∀ w0, Rd w0 rb ad cap b 1 → Calls Try.prog 59 #[.pointer (some ⟨rb, 0, none⟩)] w0 fun e w' => e = .returned (.int .u8 (wd b 1)) ∧ Rd w' rb ad cap b (1 + 1) ∧ w0.grownBy w' (some rb)) := fun w0 h0 => next_more rb cap 1 ad b w0 h0 hend
        by_cases h0 : wd b 1 = 69
        · have Hn : Hid ((0 < 1 + 1 → wd b 0 = 71) ∧ (1 < 1 + 1 → wd b 1 = 69)) := ⟨fun _ => hw.out.1 (by omega), fun _ => h0⟩
          rw [h0] at Hw
          clear h0 hby
          go_wp2_with fail
          go_region_with (go_at_call 59; refine (Hw.out _ (by first | exact hr.out | exact hr.out.drewN _ | exact hr.out.same (Below.refl _ _).drew)).mono ?_; rintro e w2 ⟨rfl, hr2, hg2'⟩; have hg2 := grown_drawn hg2')
          all_goals go_wp2_with fail
          all_goals go_roundw
          all_goals first | exact ⟨1 + 1, by first | rfl | simp, by omega, hr2, Hn, grown_trans hg hg2⟩ | simp [intOf]
        · have Hf : Hid (markP b = some (2, 0)) := by unfold markP; rw [if_pos (Or.inr ⟨hend, h0⟩)]; exact rfl
          have hne : (wd b 1 != 69) = true := by simpa using h0
          generalize wd b 1 = c at *
          clear h0
          go_wp2_with fail
          go_region_with (go_at_call 59; refine (Hw.out _ (by first | exact hr.out | exact hr.out.drewN _ | exact hr.out.same (Below.refl _ _).drew)).mono ?_; rintro e w2 ⟨rfl, hr2, hg2'⟩; have hg2 := grown_drawn hg2')
          all_goals go_wp2_with fail
          all_goals exact ⟨rfl, mark_bad Hf.out ⟨rfl, grown_trans hg hg2⟩⟩
      · have hl : b.length = 1 := by omega
        have Hf : Hid (markP b = some (8, (b.length : Int))) := by
          have h1 : ¬ ((0 < b.length ∧ wd b 0 ≠ 71) ∨ (1 < b.length ∧ wd b 1 ≠ 69)) := by
            rintro (⟨h1, h2⟩ | ⟨h1, h2⟩)
            · exact h2 (hw.out.1 (by omega))
            · omega
          unfold markP; rw [if_neg h1, if_pos (by omega)]; exact rfl
        have hr' := hr.out
        rw [← hl] at hr'
        have Hr : Hid (Rd wr rb ad cap b b.length) := hr'
        have Hw : Hid (∀ w0, Rd w0 rb ad cap b b.length → Calls Try.prog 59 #[.pointer (some ⟨rb, 0, none⟩)] w0 fun e w' => GivesUp (8, b.length) rb w0 e w') := fun w0 h0 => next_end rb cap ad b w0 h0 _
        clear hr' hl hle hend
        go_wp2_with fail
        go_region_dies
        all_goals (refine (Hw.out _ (Hr.out.same (Below.refl _ _).drew)).mono ?_; rintro e w2 ⟨rfl, hg2⟩; exact ⟨rfl, mark_bad Hf.out ⟨rfl, grown_trans hg (grown_drawn hg2)⟩⟩)
    · have Hf : Hid (markP b = none) := by
        have h1 : ¬ ((0 < b.length ∧ wd b 0 ≠ 71) ∨ (1 < b.length ∧ wd b 1 ≠ 69)) := by
          rintro (⟨h1, h2⟩ | ⟨h1, h2⟩)
          · exact h2 (hw.out.1 (by omega))
          · exact h2 (hw.out.2 (by omega))
        unfold markP; rw [if_neg h1, if_neg (by omega)]; exact rfl
      go_wp2_with fail
      refine bodyPost_ret (results_none rfl _ _ _) rfl ?_
      unfold MarkEnd
      rw [Hf.out]
      exact ⟨rfl, hr.out, hg⟩
end Go.Proofs.Ytdacgjjkgagjhac
