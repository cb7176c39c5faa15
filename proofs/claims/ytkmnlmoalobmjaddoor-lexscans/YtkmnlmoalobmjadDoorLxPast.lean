/- package lex: who tells bytes from others, and the first place whose byte does not go on. -/
import Derived.Test.YtkmnlmoalobmjadDoorLexSets
import Derived.Test.YtkmnlmoalobmjadDoorShelf
import Derived.Test.YtkmnlmoalobmjadDoorTokMem
namespace Go.Proofs.YtkmnlmoalobmjadDoor
open Go.RowKit

/-- A function of one byte that is called by its value, with what it has captured: what it answers, as long as a world is of a kind that lasts. -/
structure Asks (K : Nat) (cs : Array Value) (p : Int → Bool) (I : World → Prop) : Prop where
  enters : ∀ (args : Array Value) (w : World), Sem.run Tryd.prog (callFunc K args) w = .ok (.enter K args) w
  lasts : ∀ w w', I w → Below w.heap.size w w' → I w'
  says : ∀ c w, I w → 0 ≤ c ∧ c ≤ 255 → Calls Tryd.prog K (#[.int .u8 c] ++ cs) w fun e w' => e = .returned (.bool (p c)) ∧ Below w.heap.size w w'

/-- The cell of block b holds that text. -/
def HoldsT (b : Nat) (t : ByteArray) (w : World) : Prop := b < w.heap.size ∧ w.cell? ⟨b, 0, none⟩ = some (.string t)
theorem HoldsT.lasts {b : Nat} {t : ByteArray} (w w' : World) (h : HoldsT b t w) (hb : Below w.heap.size w w') : HoldsT b t w' :=
  ⟨by have := hb.size; have := h.1; omega, by rw [hb.cell (p := ⟨b, 0, none⟩) h.1]; exact h.2⟩

theorem oneOf1_any (all : ByteArray) (c : Int) (b : Nat) (w : World) (hc : w.cell? ⟨b, 0, none⟩ = some (.string all)) :
    Calls Tryd.prog 22 #[.int .u8 c, .pointer (some ⟨b, 0, none⟩)] w fun e w' => e = .returned (.bool (decide (0 ≤ Lib.indexByte all.data.toList c.toNat.toUInt8))) ∧ w' = w := by
  go_enter Tryd.func22, Tryd.ntmps22
  go_wp2_with (go_at_call 23; refine (Tryd.strings_IndexByte _ _ _).mono ?_; rintro e w' ⟨rfl, rfl⟩)
  go_ret
  exact ⟨by simp, rfl⟩
theorem noneOf1_any (all : ByteArray) (c : Int) (b : Nat) (w : World) (hc : w.cell? ⟨b, 0, none⟩ = some (.string all)) :
    Calls Tryd.prog 25 #[.int .u8 c, .pointer (some ⟨b, 0, none⟩)] w fun e w' => e = .returned (.bool (decide (Lib.indexByte all.data.toList c.toNat.toUInt8 < 0))) ∧ w' = w := by
  go_enter Tryd.func25, Tryd.ntmps25
  go_wp2_with (go_at_call 23; refine (Tryd.strings_IndexByte _ _ _).mono ?_; rintro e w' ⟨rfl, rfl⟩)
  go_ret
  exact ⟨by simp, rfl⟩
theorem asks_one {all : ByteArray} {p : Int → Bool} (b : Nat) (h : ∀ {c : Int}, 0 ≤ c ∧ c ≤ 255 → decide (0 ≤ Lib.indexByte all.data.toList c.toNat.toUInt8) = p c) : Asks 22 #[.pointer (some ⟨b, 0, none⟩)] p (HoldsT b all) :=
  ⟨fun _ _ => by kernel_rfl, HoldsT.lasts, fun c w hI hc => (oneOf1_any all c b w hI.2).mono fun e w' ⟨h1, h2⟩ => ⟨by rw [h1, h hc], by rw [h2]; exact Below.refl _ _⟩⟩
theorem asks_none {all : ByteArray} {p : Int → Bool} (b : Nat) (h : ∀ {c : Int}, 0 ≤ c ∧ c ≤ 255 → decide (Lib.indexByte all.data.toList c.toNat.toUInt8 < 0) = p c) : Asks 25 #[.pointer (some ⟨b, 0, none⟩)] p (HoldsT b all) :=
  ⟨fun _ _ => by kernel_rfl, HoldsT.lasts, fun c w hI hc => (noneOf1_any all c b w hI.2).mono fun e w' ⟨h1, h2⟩ => ⟨by rw [h1, h hc], by rw [h2]; exact Below.refl _ _⟩⟩

/-- What oneOf and noneOf answer: a function with the text in a box of its own. -/
theorem oneOf_any (all : ByteArray) (w : World) :
    Calls Tryd.prog 14 #[.string all] w fun e w' => e = .returned (.func (.func 22) #[] #[.pointer (some ⟨w.heap.size, 0, none⟩)]) ∧ HoldsT w.heap.size all w' ∧ Below w.heap.size w w' := by
  go_enter Tryd.func14, Tryd.ntmps14
  go_wp2
  go_ret
  exact ⟨rfl, ⟨by simp, by simp⟩, (Below.refl _ _).alloc (Nat.le_refl _) _⟩
theorem noneOf_any (all : ByteArray) (w : World) :
    Calls Tryd.prog 16 #[.string all] w fun e w' => e = .returned (.func (.func 25) #[] #[.pointer (some ⟨w.heap.size, 0, none⟩)]) ∧ HoldsT w.heap.size all w' ∧ Below w.heap.size w w' := by
  go_enter Tryd.func16, Tryd.ntmps16
  go_wp2
  go_ret
  exact ⟨rfl, ⟨by simp, by simp⟩, (Below.refl _ _).alloc (Nat.le_refl _) _⟩

set_option maxHeartbeats 2000000 in
/-- The first place from i on whose byte does not go on. -/
theorem past_any (K : Nat) (cs : Array Value) (p : Int → Bool) (I : World → Prop) (A : Asks K cs p I) (t : ByteArray) (i : Nat) (w : World) (hI : I w) (hi : i ≤ t.size) (hl : t.size ≤ 4000) :
    Calls Tryd.prog 13 #[.string t, .int .i64 i, .func (.func K) #[] cs] w fun e w' => e = .returned (.int .i64 (stopP p (nums t) i : Nat)) ∧ Below w.heap.size w w' := by
  have HL : Hid ((nums t).length = t.size) := nums_length t
  have hent := A.enters
  have HU : Hid (Upto p (nums t) i i) := upto_first (by rw [nums_length]; exact hi)
  go_enter Tryd.func13, Tryd.ntmps13
  go_wp2
  go_loopw [1] (fun s1 wr => ∃ (k : Nat), s1 = .int .i64 k ∧ k ≤ t.size ∧ Hid (Upto p (nums t) i k) ∧ Below w.heap.size w wr) (fun s1 _ => t.size - (intOf s1).toNat)
  case atStart => exact ⟨i, rfl, hi, HU, Below.refl _ _⟩
  case round =>
    clear HU
    obtain ⟨k, rfl, hk, HU, hB⟩ := hrel
    have hIr := A.lasts _ _ hI hB
    by_cases hlt : k < t.size
    · have hil : (k : Int) < (t.size : Int) := by omega
      have hcc := nums_at hlt
      have hby := wd_byte (nums_byte t) k
      have hw1 := wrap_id (x := (k : Int) + 1) (by omega) (by omega)
      have HX : Hid (p (wd (nums t) k) = true → Upto p (nums t) i (k + 1)) := fun h => HU.out.step (by rw [HL.out]; exact hlt) h
      have HY : Hid (p (wd (nums t) k) = false → stopP p (nums t) i = k) := fun h => HU.out.stop (Or.inr h)
      generalize wd (nums t) k = x at *
      cases hp : p x with
      | true =>
        have HZ : Hid (Upto p (nums t) i (k + 1)) := HX.out hp
        have hs := A.says x _ hIr hby
        rw [hp] at hs
        clear HX HY hp
        go_wp2_with (first | (refine hs.mono ?_; rintro e w2 ⟨rfl, hb2⟩))
        have hBn : Below w.heap.size w w2 := hB.trans (hb2.mono hB.size)
        go_roundw
        case rel => exact ⟨k + 1, by first | rfl | simp, by omega, HZ, hBn⟩
        case measure => simp [intOf]; omega
      | false =>
        have HZ : Hid (stopP p (nums t) i = k) := HY.out hp
        have hs := A.says x _ hIr hby
        rw [hp] at hs
        clear HX HY hp
        go_wp2_with (first | (refine hs.mono ?_; rintro e w2 ⟨rfl, hb2⟩))
        go_ret
        exact ⟨by rw [HZ.out]; rfl, hB.trans (hb2.mono hB.size)⟩
    · have HZ : Hid (stopP p (nums t) i = k) := HU.out.stop (Or.inl (by rw [HL.out]; exact hlt))
      have e : k = t.size := by omega
      subst e
      go_wp2_with fail
      go_ret
      exact ⟨by rw [HZ.out]; rfl, hB⟩
end Go.Proofs.YtkmnlmoalobmjadDoor
