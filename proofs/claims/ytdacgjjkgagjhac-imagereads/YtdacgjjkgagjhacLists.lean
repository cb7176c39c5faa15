/- Lists as bytes: image.appendList. -/
import Derived.Test.YtdacgjjkgagjhacNumbers
namespace Go.Proofs.Ytdacgjjkgagjhac
open Go.RowKit

/-- Numbers that lie below block B. -/
def RowUnder (B : Nat) (ad : Option Addr) (l : List Int) (w : World) : Prop := 0 < l.length → ∃ b off, ad = some ⟨b, off, none⟩ ∧ Row w b off l ∧ b < B
theorem RowUnder.below {B : Nat} {ad : Option Addr} {l : List Int} {w w' : World} (h : RowUnder B ad l w) (hb : Below B w w') : RowUnder B ad l w' :=
  fun h0 => let ⟨b, off, e, r, hlt⟩ := h h0; ⟨b, off, e, r.below hb hlt, hlt⟩
theorem step_list {ys zs l : List Int} {i : Nat} (hi : i < l.length) (h : ys ++ (l.drop i).flatMap numB = zs) : Hid (ys ++ numB (wd l i) ++ (l.drop (i + 1)).flatMap numB = zs) := by
  have e : l.drop i = wd l i :: l.drop (i + 1) := by
    rw [List.drop_eq_getElem_cons hi]; congr 1
    unfold wd; rw [List.getD_eq_getElem?_getD, List.getElem?_eq_getElem hi]; rfl
  have : ys ++ numB (wd l i) ++ (l.drop (i + 1)).flatMap numB = zs := by rw [← h, e]; simp
  exact this
theorem few_left {ys zs r : List Int} {n : Nat} (h : ys ++ r = zs) (hn : zs.length ≤ n) : ys.length ≤ n := by
  have := congrArg List.length h
  rw [List.length_append] at this; omega
theorem mild_wd {l : List Int} (h : ∀ x ∈ l, Mild x) (i : Nat) : Mild (wd l i) := by
  by_cases hi : i < l.length
  · unfold wd; rw [List.getD_eq_getElem?_getD, List.getElem?_eq_getElem hi]; exact h _ (List.getElem_mem hi)
  · unfold wd; rw [List.getD_eq_getElem?_getD, List.getElem?_eq_none (by omega)]; exact ⟨by simp, by simp⟩

set_option maxHeartbeats 1000000 in
theorem appendList_any (B : Nat) (v : Value) (xs l : List Int) (ad : Option Addr) (c : Nat) (w : World) (hown : OwnB w B v xs) (hrow : RowUnder B ad l w) (hB : B ≤ w.heap.size) (hm : ∀ x ∈ l, Mild x) (hn : l.length ≤ 5000) (hl : (xs ++ listB l).length ≤ 800000) :
    Calls Try.prog 21 #[v, .slice ad l.length c] w fun e w' => AnsB B (xs ++ listB l) e w' ∧ Below B w w' := by
  have hxs : xs.length ≤ 900000 := by rw [List.length_append] at hl; omega
  have hln : Mild l.length := ⟨by omega, by omega⟩
  have HC : Hid (∀ (v : Value) (ys : List Int) (x : Int) (w0 : World), OwnB w0 B v ys → B ≤ w0.heap.size → Mild x → ys.length ≤ 900000 → Calls Try.prog 35 #[v, .int .i64 x] w0 fun e w' => AnsB B (ys ++ numB x) e w' ∧ Below B w0 w') :=
    fun v ys x w0 h1 h2 h3 h4 => appendNumber_any B v ys x w0 h1 h2 (by have := h3.1; omega) (by have := h3.2; omega) (numB_short h3) h4
  have HL : Hid ((xs ++ listB l).length ≤ 800000) := hl
  have HR : Hid (RowUnder B ad l w) := hrow
  have HO : Hid (OwnB w B v xs) := hown
  clear hown hrow hl
  go_enter Try.func21, Try.ntmps21
  go_wp2_with (go_at_call 35; refine (HC.out v xs l.length _ HO.out hB hln hxs).mono ?_; rintro e w1 ⟨⟨g, cap, rfl, hg, hhas⟩, hb1⟩)
  go_loopw [0, 13] (fun s y wr => ∃ (ys : List Int) (i : Nat), y = .int .i64 i ∧ i ≤ l.length ∧ Hid (OwnB wr B s ys) ∧ Hid (ys ++ (l.drop i).flatMap numB = xs ++ listB l) ∧ Below B w wr) (fun _ y _ => l.length - (intOf y).toNat)
  case atStart => exact ⟨xs ++ numB l.length, 0, rfl, by omega, Or.inr ⟨g, cap, by simp, hg, hhas⟩, by (have : xs ++ numB l.length ++ (l.drop 0).flatMap numB = xs ++ listB l := (by unfold listB; simp); exact this), hb1⟩
  case round =>
    rename_i s y wr
    obtain ⟨ys, i, rfl, hi, ho, he, hb⟩ := hrel
    have hsz := hb.size
    have hys := few_left he.out HL.out
    clear hhas
    by_cases hlt : i < l.length
    · obtain ⟨b, off, rfl, hr, hbB⟩ := HR.out.below hb (by omega)
      have hcell := hr.cell i hlt
      have hc : (i : Int) < (l.length : Int) := by omega
      have hmi := mild_wd hm i
      have hys9 : ys.length ≤ 900000 := by omega
      have hwB : B ≤ wr.heap.size := by omega
      have Hr : Hid (Row wr b off l) := hr
      clear hr
      go_wp2_with (go_at_call 35; refine (HC.out _ ys (wd l i) _ ho.out hwB hmi hys9).mono ?_; rintro e w2 ⟨⟨g2, cap2, rfl, hg2, hhas2⟩, hb2⟩)
      go_roundw
      case rel => exact ⟨ys ++ numB (wd l i), i + 1, by first | rfl | simp, by omega, Or.inr ⟨g2, cap2, by simp, hg2, hhas2⟩, step_list hlt he.out, hb.trans hb2⟩
      case measure => simp [intOf]; omega
    · have hc : ¬ (i : Int) < (l.length : Int) := by omega
      have hfin : ys = xs ++ listB l := by
        have := he.out
        rw [List.drop_of_length_le (by omega)] at this
        simpa using this
      go_wp2
      go_ret
      subst hfin
      rcases ho.out with ⟨_, h0⟩ | ⟨g3, cap3, rfl, hg3, hh3⟩
      · exfalso
        have := congrArg List.length h0
        have h2 := enc_pos (zig l.length)
        unfold listB numB at this
        simp only [List.length_append, List.length_nil] at this
        omega
      · exact ⟨⟨g3, cap3, rfl, hg3, hh3⟩, hb⟩
end Go.Proofs.Ytdacgjjkgagjhac
