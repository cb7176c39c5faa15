/- heap.New: a thing more, or what stands against it. -/
import Derived.Test.YtmgmbgacdjebgaaVAdd
namespace Go.Proofs.Ytmgmbgacdjebgaa
open Go.RowKit

/-- What New, Look, Put say of words: nothing, and an error. -/
abbrev newErr (e : Int) : Ending := .returned (.tuple #[.agg #[.slice none 0 0], .int .i64 0, .int .i64 e])

theorem cell_set_past {w : World} {a : Addr} {v x : Value} {o : Obj} (h : w.cell? a = some v) : ((w.setCell a x).alloc o).cell? a = some x := by
  have hlt := World.block_lt_of_cell? w a h
  rw [cell_past _ (by simpa [World.setCell] using hlt)]
  exact World.cell?_setCell_same' w a x (by rw [h]; rfl)

set_option maxHeartbeats 1000000 in
theorem new_heap (W : List Int) (ad : Option Addr) (cap : Nat) (cl fo si : Int) (w : World) (hm : W.length ≤ maxLen) (hr : 2 ≤ W.length → ∃ b off, ad = some ⟨b, off, none⟩ ∧ Row w b off W) (h : (checkOf W).1 ≠ 0) :
    Calls Try.prog 23 #[heapV ad W.length cap, .int .i64 cl, .int .i64 fo, .int .i64 si] w fun e w' => e = newErr 7 ∧ Below w.heap.size w w' := by
  have hs : Hid (∀ w0, (2 ≤ W.length → ∃ b off, ad = some ⟨b, off, none⟩ ∧ Row w0 b off W) → Calls Try.prog 38 #[heapV ad W.length cap] w0 fun e w' => e = .returned (.tuple #[noView, .int .i64 7]) ∧ Below w0.heap.size w0 w') :=
    fun w0 hr0 => open_no W ad cap w0 hm hr0 h
  have HR : Hid (2 ≤ W.length → ∃ b off, ad = some ⟨b, off, none⟩ ∧ Row w b off W) := hr
  clear h hr
  go_enter Try.func23, Try.ntmps23
  go_wp2_with (first | (go_at_call 38; refine (hs.out _ (reads2 HR.out)).mono ?_; rintro e w1 ⟨rfl, hb1⟩; have hz : w.heap.size + 1 < w1.heap.size := (boxes11 hb1).2.2.2; have d0 := (boxes11 hb1).2.1; have d1 := (fun o => (boxes11 (hb1.alloc (by simp; omega) o)).2.1); have d2 := (fun o => (boxes11 (hb1.alloc (by simp; omega) o)).2.2.1)))
  have x1 := fun o => cell_set_past (o := o) (x := .slice none 0 0) d0
  refine bodyPost_ret (v := .tuple #[.agg #[.slice none 0 0], .int .i64 0, .int .i64 7]) (by simp [results, Try.results23, go_sem, x1]) rfl ⟨rfl, ?_⟩
  repeat (first | refine Below.setCell ?_ (by dsimp only; omega) _ | refine Below.alloc ?_ (by simp [World.setCell]; omega) _ | exact below2 hb1)

theorem InBox.new {W : List Int} {b cap bm : Nat} {w : World} (hv : IsView w b cap bm W) : InBox W w.heap.size b cap bm (w.alloc (.cells #[sl b W.length cap, .map (some bm)] 46)) :=
  ⟨hv.alloc _, by rw [cell_at2 rfl]; rfl, by rw [cell_at2 rfl]; rfl, by rw [frozen_at2 rfl]⟩
/-- New where Add refuses. -/
theorem new_err (W : List Int) (ad : Option Addr) (cap : Nat) (cl fo si er : Int) (w : World) (hr : 2 ≤ W.length → ∃ b off, ad = some ⟨b, off, none⟩ ∧ Row w b off W) (h : (checkOf W).1 = 0) (her : (er != 0) = true)
    (hadd : ∀ Q b cap bm w0, InBox W Q b cap bm w0 → Calls Try.prog 39 #[.pointer (some ⟨Q, 0, none⟩), .int .i64 cl, .int .i64 fo, .int .i64 si] w0 fun e w' => e = addErr er ∧ Below w0.heap.size w0 w') :
    Calls Try.prog 23 #[heapV ad W.length cap, .int .i64 cl, .int .i64 fo, .int .i64 si] w fun e w' => e = newErr er ∧ Below w.heap.size w w' := by
  have hs : Hid (∀ w0, (2 ≤ W.length → ∃ b off, ad = some ⟨b, off, none⟩ ∧ Row w0 b off W) → Calls Try.prog 38 #[heapV ad W.length cap] w0 fun e w' => OpenAns W w0.heap.size e w' ∧ Below w0.heap.size w0 w') :=
    fun w0 hr0 => open_yes W ad cap w0 hr0 h
  have HR : Hid (2 ≤ W.length → ∃ b off, ad = some ⟨b, off, none⟩ ∧ Row w b off W) := hr
  have HA : Hid (∀ Q b cap bm w0, InBox W Q b cap bm w0 → Calls Try.prog 39 #[.pointer (some ⟨Q, 0, none⟩), .int .i64 cl, .int .i64 fo, .int .i64 si] w0 fun e w' => e = addErr er ∧ Below w0.heap.size w0 w') := hadd
  clear h hr hadd
  go_enter Try.func23, Try.ntmps23
  go_wp2_with (first | (go_at_call 38; refine (hs.out _ (reads2 HR.out)).mono ?_; rintro e w1 ⟨⟨b, cap', bm, rfl, hv, hb, hbm, hne⟩, hb1⟩; have hz : w.heap.size + 1 < w1.heap.size := (boxes11 hb1).2.2.2) | (go_at_call 39; refine (HA.out _ b cap' bm _ (InBox.new hv)).mono ?_; rintro e w2 ⟨rfl, hb2⟩; have hb12 := hb1.trans ((below_call hb2).mono hb1.size); obtain ⟨c0, d1, d2, hz2⟩ := boxes11 hb12))
  refine bodyPost_ret (v := .tuple #[.agg #[.slice none 0 0], .int .i64 0, .int .i64 er]) (by simp [results, Try.results23, go_sem, d1]) rfl ⟨rfl, ?_⟩
  repeat (first | refine Below.setCell ?_ (by dsimp only; omega) _ | exact below2 hb12)

theorem new_kind (W : List Int) (ad : Option Addr) (cap : Nat) (cl fo si : Int) (w : World) (hr : 2 ≤ W.length → ∃ b off, ad = some ⟨b, off, none⟩ ∧ Row w b off W) (h : (checkOf W).1 = 0) (hc : nilB W cl = false) :
    Calls Try.prog 23 #[heapV ad W.length cap, .int .i64 cl, .int .i64 fo, .int .i64 si] w fun e w' => e = newErr 3 ∧ Below w.heap.size w w' := by
  obtain ⟨hf, _⟩ := check_ok h
  obtain ⟨hl2, _, _, _, _⟩ := front_out hf
  exact new_err W ad cap cl fo si 3 w hr h rfl fun Q b cap bm w0 hB => vadd_kind W Q b cap bm cl fo si w0 hB hl2 hc
theorem new_range (W : List Int) (ad : Option Addr) (cap : Nat) (cl fo si : Int) (w : World) (hr : 2 ≤ W.length → ∃ b off, ad = some ⟨b, off, none⟩ ∧ Row w b off W) (h : (checkOf W).1 = 0) (hc : nilB W cl = true) (hfs : (formB fo && sizeB si) = false) :
    Calls Try.prog 23 #[heapV ad W.length cap, .int .i64 cl, .int .i64 fo, .int .i64 si] w fun e w' => e = newErr 4 ∧ Below w.heap.size w w' := by
  obtain ⟨hf, _⟩ := check_ok h
  obtain ⟨hl2, _, _, _, _⟩ := front_out hf
  exact new_err W ad cap cl fo si 4 w hr h rfl fun Q b cap bm w0 hB => vadd_range W Q b cap bm cl fo si w0 hB hl2 hc hfs
theorem new_full (W : List Int) (ad : Option Addr) (cap : Nat) (cl fo si : Int) (w : World) (hr : 2 ≤ W.length → ∃ b off, ad = some ⟨b, off, none⟩ ∧ Row w b off W) (h : (checkOf W).1 = 0) (hc : nilB W cl = true) (h1 : formB fo = true) (h2 : sizeB si = true) (hfull : 2000 < (W.length : Int) + 3 + si ∨ 10000 < wd W 1) :
    Calls Try.prog 23 #[heapV ad W.length cap, .int .i64 cl, .int .i64 fo, .int .i64 si] w fun e w' => e = newErr 6 ∧ Below w.heap.size w w' := by
  obtain ⟨hf, _⟩ := check_ok h
  obtain ⟨hl2, hl, _, _, _⟩ := front_out hf
  exact new_err W ad cap cl fo si 6 w hr h rfl fun Q b cap bm w0 hB => vadd_full W Q b cap bm cl fo si w0 hB hl2 hl hc h1 h2 hfull

/-- What New answers where it makes a thing. -/
def NewAns (W' : List Int) (o : Int) (e : Ending) (w : World) : Prop := ∃ g cap, e = .returned (.tuple #[.agg #[sl g W'.length cap], .int .i64 o, .int .i64 0]) ∧ w.ownsRow 0 3 1 (sl g W'.length cap) W'.length (vals W')

end Go.Proofs.Ytmgmbgacdjebgaa
