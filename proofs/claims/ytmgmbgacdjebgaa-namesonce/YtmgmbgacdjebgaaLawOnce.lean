/- NamesOnce holds for every heap, every table and all texts that can come in, with no condition: a text that was made known is found, at the same thing, whatever is made known behind it; unlike texts have unlike things. -/
import Derived.Test.YtmgmbgacdjebgaaFrame
import Derived.Test.YtmgmbgacdjebgaaOnceKit
import Derived.ChangeMaps5
namespace Go.Proofs.Ytmgmbgacdjebgaa.namesOnce
open Go.ChangeShapes Go.WideShapes Go.ChangeAt Go.RowKit Go.Joins Go.Deep

/-- Words of one's own. -/
abbrev OwnH (w : World) (g c : Nat) (K : List Int) : Prop := w.ownsRow 0 3 1 (sl g K.length c) K.length (vals K)
theorem keep0 {w w' : World} (hb : Below w.heap.size w w') {a : Addr} {v : Value} (h : w.cell? a = some v) : w'.cell? a = some v := by
  rw [hb.cell (World.block_lt_of_cell? w a h)]; exact h
theorem keepF {w w' : World} (hb : Below w.heap.size w w') {a : Addr} {v : Value} (h : w.cell? a = some v) {f : Bool} (hf : w.frozen? a = f) : w'.frozen? a = f := by
  rw [hb.frozen (World.block_lt_of_cell? w a h)]; exact hf
theorem own_not {w : World} {g c B : Nat} {K : List Int} {ad : Option Addr} {m k : Nat} (h : OwnH w g c K) (hn : 0 < K.length) (hB : w.cell? ⟨B, 0, none⟩ = some (.slice ad m k)) : g ≠ B := fun e => by
  have := own_cell h hn
  rw [e, hB] at this
  simp at this
/-- What stands through the walk: the box of the heap that came in, the box X of the words at hand. -/
structure Stands (w : World) (vh : Value) (X : Nat) (vx : Value) (wi : World) : Prop where
  a0 : Below (w.alloc (.cells #[vh] 24)).heap.size (w.alloc (.cells #[vh] 24)) wi
  x : wi.cell? ⟨X, 0, none⟩ = some vx
  f : wi.frozen? ⟨X, 0, none⟩ = false
  lt : w.heap.size < X
theorem Stands.next {w wi wj : World} {vh vx : Value} {X : Nat} (h : Stands w vh X vx wi) (hb : Below wi.heap.size wi wj) : Stands w vh X vx wj :=
  ⟨h.a0.trans (hb.mono h.a0.size), keep0 hb h.x, keepF hb h.x h.f, h.lt⟩
theorem Stands.set {w wi : World} {vh vx : Value} {X : Nat} (h : Stands w vh X vx wi) (u : Value) : Stands w vh X u (wi.setCell ⟨X, 0, none⟩ u) :=
  ⟨h.a0.setCell (by simp; exact h.lt) u, World.cell?_setCell_same' wi _ _ (by rw [h.x]; rfl), by rw [World.frozen?_setCell]; exact h.f, h.lt⟩
theorem Stands.alloc {w wi : World} {vh vx : Value} {X : Nat} (h : Stands w vh X vx wi) (o : Obj) : Stands w vh X vx (wi.alloc o) := h.next ((Below.refl _ _).alloc (Nat.le_refl _) o)
theorem Stands.cells {w wi : World} {vh vx : Value} {X : Nat} (h : Stands w vh X vx wi) : wi.cell? ⟨w.heap.size, 0, none⟩ = some vh ∧ wi.cell? ⟨X, 0, none⟩ = some vx ∧ wi.frozen? ⟨X, 0, none⟩ = false ∧ w.heap.size < wi.heap.size ∧ X < wi.heap.size := by
  have := h.a0.size
  simp at this
  exact ⟨box_one h.a0, h.x, h.f, by omega, World.block_lt_of_cell? _ _ h.x⟩
theorem Stands.below {w wi : World} {vh vx : Value} {X : Nat} (h : Stands w vh X vx wi) : Below w.heap.size w wi := below_call h.a0
theorem Stands.first {w w1 : World} {vh vx : Value} (h : Below (w.alloc (.cells #[vh] 24)).heap.size (w.alloc (.cells #[vh] 24)) w1) : Stands w vh w1.heap.size vx (w1.alloc (.cells #[vx] 24)) := by
  have hs := h.size
  simp at hs
  exact ⟨h.alloc (by simp; omega) _, by rw [cell_at2 rfl]; rfl, frozen_at2 rfl, by omega⟩
/-- What All answers of the small table. -/
def OneText (s : ByteArray) (e : Ending) (w : World) : Prop := ∃ b off c, e = .returned (.tuple #[.slice (some ⟨b, off, none⟩) 1 c, .int .i64 0]) ∧ b < w.heap.size ∧ w.cell? ⟨b, off, none⟩ = some (.string s)

theorem ex_table (g : Nat) (w0 : World) (h : Row w0 g 0 [0, 1]) : Calls Try.prog 8 #[heapV (some ⟨g, 0, none⟩) 2 2, .int .i64 2] w0 fun e w' => NewAns ex0 4 e w' ∧ Below w0.heap.size w0 w' := by
  have := table_good [0, 1] (some ⟨g, 0, none⟩) 2 2 w0 (by decide) (fun _ => ⟨g, 0, rfl, h⟩) two_check (by omega) (by omega) (by simp) (by decide)
  rw [new_ex0] at this
  exact this
theorem ex_first (g c : Nat) (w0 : World) (h : OwnH w0 g c ex0) : Calls Try.prog 5 #[heapV (some ⟨g, 0, none⟩) ex0.length c, .int .i64 4, .string ⟨#[97]⟩] w0 fun e w' => NewAns ex1 14 e w' ∧ Below w0.heap.size w0 w' := by
  have := intern_table ex0 (some ⟨g, 0, none⟩) c 2 ⟨#[97]⟩ w0 (own_words h ex0_wf) ex0_check ex0_table (by decide)
  rw [ex_nums, ex_intern] at this
  refine this.mono fun e w' hp => ⟨?_, hp.2⟩
  rcases hp.1 with ⟨_, hn⟩ | ⟨hn, _⟩
  · exact hn
  · exact absurd rfl hn
theorem ex_all (g c : Nat) (w0 : World) (h : OwnH w0 g c ex1) : Calls Try.prog 7 #[heapV (some ⟨g, 0, none⟩) ex1.length c, .int .i64 4] w0 fun e w' => OneText ⟨#[97]⟩ e w' ∧ Below w0.heap.size w0 w' := by
  obtain ⟨h1, h2⟩ := ex1_ok
  obtain ⟨t1, t2, t3, t4, t5, t6⟩ := tab_facts h1 h2
  have := all_table ex1 (some ⟨g, 0, none⟩) c 2 w0 (own_words h ex1_wf) h1 t1 t2 h2 t6
  rw [ex1_all] at this
  refine this.mono fun e w' hp => ⟨?_, hp.2⟩
  obtain ⟨v, he, hv⟩ := hp.1
  obtain ⟨ad, k, rfl, hr⟩ := hv.reads
  obtain ⟨b, off, rfl, hlt, hc⟩ := hr (by simp)
  refine ⟨b, off, k, he, hlt, ?_⟩
  have := hc 0 (by simp)
  exact this

set_option maxRecDepth 20000 in
set_option maxHeartbeats 8000000 in
theorem once_big (W : List Int) (ad : Option Addr) (cap : Nat) (o : Int) (s t : ByteArray) (w : World) (hm : W.length ≤ maxLen) (hr : 2 ≤ W.length → ∃ b off, ad = some ⟨b, off, none⟩ ∧ Row w b off W) (hl : 5000 < W.length) :
    Calls Try.prog 4 #[.agg #[.slice ad W.length cap], .int .i64 o, .string s, .string t] w fun e w' => e = .returned (.bool true) ∧ Below w.heap.size w w' := by
  have HR : Hid (2 ≤ W.length → ∃ b off, ad = some ⟨b, off, none⟩ ∧ Row w b off W) := hr
  have hT : Hid (∀ g w0, Row w0 g 0 [0, 1] → Calls Try.prog 8 #[heapV (some ⟨g, 0, none⟩) 2 2, .int .i64 2] w0 fun e w' => NewAns ex0 4 e w' ∧ Below w0.heap.size w0 w') := ex_table
  have hE : Hid (∀ g c w0, OwnH w0 g c ex0 → Calls Try.prog 5 #[heapV (some ⟨g, 0, none⟩) ex0.length c, .int .i64 4, .string ⟨#[97]⟩] w0 fun e w' => NewAns ex1 14 e w' ∧ Below w0.heap.size w0 w') := ex_first
  have hA : Hid (∀ g c w0, OwnH w0 g c ex1 → Calls Try.prog 7 #[heapV (some ⟨g, 0, none⟩) ex1.length c, .int .i64 4] w0 fun e w' => OneText ⟨#[97]⟩ e w' ∧ Below w0.heap.size w0 w') := ex_all
  have p0 : 0 < ex0.length := by decide
  have p1 : 0 < ex1.length := by decide
  have P0 : Hid (0 < ex0.length) := p0
  have P1 : Hid (0 < ex1.length) := p1
  clear hr p0 p1
  generalize ex0 = E0 at *
  generalize ex1 = E1 at *
  unfold maxLen at hm
  have hli : (5000 : Int) < (W.length : Int) := by omega
  go_enter Try.func4, Try.ntmps4
  go_wp2_with (first | (go_at_call 8; refine (hT.out (w.heap.size + 1) _ (by have := row_two (w.alloc (.cells #[.slice ad W.length cap] 24)); simpa using this)).mono ?_; rintro e w1 ⟨⟨g1, c1, rfl, ho1⟩, hb1⟩; have S1 : Stands w (.slice ad W.length cap) w1.heap.size (sl g1 E0.length c1) (w1.alloc (.cells #[sl g1 E0.length c1] 24)) := Stands.first (((Below.refl _ _).alloc (Nat.le_refl _) _).trans (hb1.mono (by simp))); obtain ⟨h1, x1, f1, l1, m1⟩ := S1.cells) | (go_at_call_of 5 (E0.length); refine (hE.out g1 c1 _ (ho1.alloc _)).mono ?_; rintro e w2 ⟨⟨g2, c2, rfl, ho2⟩, hb2⟩; have S2 := S1.next hb2; obtain ⟨h2, x2, f2, l2, m2⟩ := S2.cells; have n2 := own_not ho2 P1.out x2; have S2' := S2.set (sl g2 E1.length c2); have ho2' : OwnH _ g2 c2 E1 := own_set' ho2 (a := ⟨w1.heap.size, 0, none⟩) n2 (sl g2 E1.length c2)) | (go_at_call 7; refine (hA.out g2 c2 _ ho2').mono ?_; rintro e w3 ⟨⟨b3, off3, c3, rfl, l3', t3⟩, hb3⟩; have S3 := S2'.next hb3; obtain ⟨h3, x3, f3, l3, m3⟩ := S3.cells; clear h1 x1 f1 l1 m1 h2 x2 f2 l2 m2 n2 ho2'))
  go_ret
  exact ⟨ret_bool (by simp), S3.below⟩

set_option maxRecDepth 20000 in
set_option maxHeartbeats 8000000 in
theorem once_err (W : List Int) (ad : Option Addr) (cap : Nat) (o : Int) (s t : ByteArray) (w : World) (hr : 2 ≤ W.length → ∃ b off, ad = some ⟨b, off, none⟩ ∧ Row w b off W) (hl : W.length ≤ 5000) (er : Int) (her : (er != 0) = true)
    (hI : Hid (∀ w0, (2 ≤ W.length → ∃ b off, ad = some ⟨b, off, none⟩ ∧ Row w0 b off W) → Calls Try.prog 5 #[heapV ad W.length cap, .int .i64 o, .string s] w0 fun e w' => e = newErr er ∧ Below w0.heap.size w0 w')) :
    Calls Try.prog 4 #[.agg #[.slice ad W.length cap], .int .i64 o, .string s, .string t] w fun e w' => e = .returned (.bool true) ∧ Below w.heap.size w w' := by
  have HR : Hid (2 ≤ W.length → ∃ b off, ad = some ⟨b, off, none⟩ ∧ Row w b off W) := hr
  have hT : Hid (∀ g w0, Row w0 g 0 [0, 1] → Calls Try.prog 8 #[heapV (some ⟨g, 0, none⟩) 2 2, .int .i64 2] w0 fun e w' => NewAns ex0 4 e w' ∧ Below w0.heap.size w0 w') := ex_table
  have hE : Hid (∀ g c w0, OwnH w0 g c ex0 → Calls Try.prog 5 #[heapV (some ⟨g, 0, none⟩) ex0.length c, .int .i64 4, .string ⟨#[97]⟩] w0 fun e w' => NewAns ex1 14 e w' ∧ Below w0.heap.size w0 w') := ex_first
  have hA : Hid (∀ g c w0, OwnH w0 g c ex1 → Calls Try.prog 7 #[heapV (some ⟨g, 0, none⟩) ex1.length c, .int .i64 4] w0 fun e w' => OneText ⟨#[97]⟩ e w' ∧ Below w0.heap.size w0 w') := ex_all
  have p0 : 0 < ex0.length := by decide
  have p1 : 0 < ex1.length := by decide
  have P0 : Hid (0 < ex0.length) := p0
  have P1 : Hid (0 < ex1.length) := p1
  clear hr p0 p1
  generalize ex0 = E0 at *
  generalize ex1 = E1 at *
  have hli : ¬ ((5000 : Int) < (W.length : Int)) := by omega
  go_enter Try.func4, Try.ntmps4
  go_wp2_with (first | (go_at_call 8; refine (hT.out (w.heap.size + 1) _ (by have := row_two (w.alloc (.cells #[.slice ad W.length cap] 24)); simpa using this)).mono ?_; rintro e w1 ⟨⟨g1, c1, rfl, ho1⟩, hb1⟩; have S1 : Stands w (.slice ad W.length cap) w1.heap.size (sl g1 E0.length c1) (w1.alloc (.cells #[sl g1 E0.length c1] 24)) := Stands.first (((Below.refl _ _).alloc (Nat.le_refl _) _).trans (hb1.mono (by simp))); obtain ⟨h1, x1, f1, l1, m1⟩ := S1.cells) | (go_at_call_of 5 (E0.length); refine (hE.out g1 c1 _ (ho1.alloc _)).mono ?_; rintro e w2 ⟨⟨g2, c2, rfl, ho2⟩, hb2⟩; have S2 := S1.next hb2; obtain ⟨h2, x2, f2, l2, m2⟩ := S2.cells; have n2 := own_not ho2 P1.out x2; have S2' := S2.set (sl g2 E1.length c2); have ho2' : OwnH _ g2 c2 E1 := own_set' ho2 (a := ⟨w1.heap.size, 0, none⟩) n2 (sl g2 E1.length c2)) | (go_at_call 7; refine (hA.out g2 c2 _ ho2').mono ?_; rintro e w3 ⟨⟨b3, off3, c3, rfl, l3', t3⟩, hb3⟩; have S3 := S2'.next hb3; obtain ⟨h3, x3, f3, l3, m3⟩ := S3.cells; clear h1 x1 f1 l1 m1 h2 x2 f2 l2 m2 n2 ho2') | (go_at_call_of 5 (W.length); refine (hI.out _ (words_below HR.out S3.below)).mono ?_; rintro e w4 ⟨rfl, hb4⟩; have S4 := S3.next hb4; obtain ⟨h4, x4, f4, l4, m4⟩ := S4.cells; have S4' := S4.set (.slice none 0 0)))
  go_ret
  exact ⟨ret_bool (by simp), S4'.below⟩

set_option maxRecDepth 20000 in
set_option maxHeartbeats 8000000 in
theorem once_two (W : List Int) (ad : Option Addr) (cap : Nat) (o : Int) (s t : ByteArray) (w : World) (hr : 2 ≤ W.length → ∃ b off, ad = some ⟨b, off, none⟩ ∧ Row w b off W) (hl : W.length ≤ 5000) (K : List Int) (a : Int) (hK : 0 < K.length) (er : Int) (her : (er != 0) = true)
    (hI : Hid (∀ w0, (2 ≤ W.length → ∃ b off, ad = some ⟨b, off, none⟩ ∧ Row w0 b off W) → Calls Try.prog 5 #[heapV ad W.length cap, .int .i64 o, .string s] w0 fun e w' => NewAns K a e w' ∧ Below w0.heap.size w0 w'))
    (hJ : Hid (∀ g c w0, OwnH w0 g c K → Calls Try.prog 5 #[heapV (some ⟨g, 0, none⟩) K.length c, .int .i64 o, .string t] w0 fun e w' => e = newErr er ∧ Below w0.heap.size w0 w'))
    (hF : Hid (∀ g c w0, OwnH w0 g c K → Calls Try.prog 6 #[heapV (some ⟨g, 0, none⟩) K.length c, .int .i64 o, .string s] w0 fun e w' => e = .returned (.tuple #[.int .i64 a, .int .i64 0]) ∧ Below w0.heap.size w0 w')) :
    Calls Try.prog 4 #[.agg #[.slice ad W.length cap], .int .i64 o, .string s, .string t] w fun e w' => e = .returned (.bool true) ∧ Below w.heap.size w w' := by
  have HR : Hid (2 ≤ W.length → ∃ b off, ad = some ⟨b, off, none⟩ ∧ Row w b off W) := hr
  have hT : Hid (∀ g w0, Row w0 g 0 [0, 1] → Calls Try.prog 8 #[heapV (some ⟨g, 0, none⟩) 2 2, .int .i64 2] w0 fun e w' => NewAns ex0 4 e w' ∧ Below w0.heap.size w0 w') := ex_table
  have hE : Hid (∀ g c w0, OwnH w0 g c ex0 → Calls Try.prog 5 #[heapV (some ⟨g, 0, none⟩) ex0.length c, .int .i64 4, .string ⟨#[97]⟩] w0 fun e w' => NewAns ex1 14 e w' ∧ Below w0.heap.size w0 w') := ex_first
  have hA : Hid (∀ g c w0, OwnH w0 g c ex1 → Calls Try.prog 7 #[heapV (some ⟨g, 0, none⟩) ex1.length c, .int .i64 4] w0 fun e w' => OneText ⟨#[97]⟩ e w' ∧ Below w0.heap.size w0 w') := ex_all
  have p0 : 0 < ex0.length := by decide
  have p1 : 0 < ex1.length := by decide
  have P0 : Hid (0 < ex0.length) := p0
  have P1 : Hid (0 < ex1.length) := p1
  clear hr p0 p1
  generalize ex0 = E0 at *
  generalize ex1 = E1 at *
  have hli : ¬ ((5000 : Int) < (W.length : Int)) := by omega
  have HKp : Hid (0 < K.length) := hK
  clear hK
  go_enter Try.func4, Try.ntmps4
  go_wp2_with (first | (go_at_call 8; refine (hT.out (w.heap.size + 1) _ (by have := row_two (w.alloc (.cells #[.slice ad W.length cap] 24)); simpa using this)).mono ?_; rintro e w1 ⟨⟨g1, c1, rfl, ho1⟩, hb1⟩; have S1 : Stands w (.slice ad W.length cap) w1.heap.size (sl g1 E0.length c1) (w1.alloc (.cells #[sl g1 E0.length c1] 24)) := Stands.first (((Below.refl _ _).alloc (Nat.le_refl _) _).trans (hb1.mono (by simp))); obtain ⟨h1, x1, f1, l1, m1⟩ := S1.cells) | (go_at_call_of 5 (E0.length); refine (hE.out g1 c1 _ (ho1.alloc _)).mono ?_; rintro e w2 ⟨⟨g2, c2, rfl, ho2⟩, hb2⟩; have S2 := S1.next hb2; obtain ⟨h2, x2, f2, l2, m2⟩ := S2.cells; have n2 := own_not ho2 P1.out x2; have S2' := S2.set (sl g2 E1.length c2); have ho2' : OwnH _ g2 c2 E1 := own_set' ho2 (a := ⟨w1.heap.size, 0, none⟩) n2 (sl g2 E1.length c2)) | (go_at_call 7; refine (hA.out g2 c2 _ ho2').mono ?_; rintro e w3 ⟨⟨b3, off3, c3, rfl, l3', t3⟩, hb3⟩; have S3 := S2'.next hb3; obtain ⟨h3, x3, f3, l3, m3⟩ := S3.cells; clear h1 x1 f1 l1 m1 h2 x2 f2 l2 m2 n2 ho2') | (go_at_call_of 5 (W.length); refine (hI.out _ (words_below HR.out S3.below)).mono ?_; rintro e w4 ⟨⟨g4, c4, rfl, ho4⟩, hb4⟩; have S4 := S3.next hb4; obtain ⟨h4, x4, f4, l4, m4⟩ := S4.cells; have n4 := own_not ho4 HKp.out x4; have S4' := S4.set (sl g4 K.length c4); have ho4' : OwnH _ g4 c4 K := own_set' ho4 (a := ⟨w1.heap.size, 0, none⟩) n4 (sl g4 K.length c4)) | (go_at_call_of 5 (K.length); refine (hJ.out g4 c4 _ ho4').mono ?_; rintro e w5 ⟨rfl, hb5⟩; have S5 := S4'.next hb5; have ho5 : OwnH w5 g4 c4 K := ownsRow_below ho4' hb5 (own_lt ho4'); obtain ⟨h5, x5, f5, l5, m5⟩ := S5.cells; have y5 : ¬ w1.heap.size = w5.heap.size := (by omega); have S5' : Stands w (.slice ad W.length cap) w1.heap.size (sl g4 K.length c4) (w5.alloc (.cells #[sl g4 K.length c4] 24)) := S5.alloc _) | (go_at_call 6; refine (hF.out g4 c4 _ (ho5.alloc _)).mono ?_; rintro e w6 ⟨rfl, hb6⟩; have S6 := S5'.next hb6))
  go_ret
  exact ⟨ret_bool (by simp), S6.below⟩

set_option maxRecDepth 20000 in
set_option maxHeartbeats 8000000 in
theorem once_ok (W : List Int) (ad : Option Addr) (cap : Nat) (o : Int) (s t : ByteArray) (w : World) (hr : 2 ≤ W.length → ∃ b off, ad = some ⟨b, off, none⟩ ∧ Row w b off W) (hl : W.length ≤ 5000) (K : List Int) (a : Int) (hK : 0 < K.length) (M : List Int) (b : Int) (hbe : ((b == a) == (s.toList == t.toList)) = true)
    (hI : Hid (∀ w0, (2 ≤ W.length → ∃ b off, ad = some ⟨b, off, none⟩ ∧ Row w0 b off W) → Calls Try.prog 5 #[heapV ad W.length cap, .int .i64 o, .string s] w0 fun e w' => NewAns K a e w' ∧ Below w0.heap.size w0 w'))
    (hJ : Hid (∀ g c w0, OwnH w0 g c K → Calls Try.prog 5 #[heapV (some ⟨g, 0, none⟩) K.length c, .int .i64 o, .string t] w0 fun e w' => NewAns M b e w' ∧ Below w0.heap.size w0 w'))
    (hF : Hid (∀ g c w0, OwnH w0 g c M → Calls Try.prog 6 #[heapV (some ⟨g, 0, none⟩) M.length c, .int .i64 o, .string s] w0 fun e w' => e = .returned (.tuple #[.int .i64 a, .int .i64 0]) ∧ Below w0.heap.size w0 w')) :
    Calls Try.prog 4 #[.agg #[.slice ad W.length cap], .int .i64 o, .string s, .string t] w fun e w' => e = .returned (.bool true) ∧ Below w.heap.size w w' := by
  have HR : Hid (2 ≤ W.length → ∃ b off, ad = some ⟨b, off, none⟩ ∧ Row w b off W) := hr
  have hT : Hid (∀ g w0, Row w0 g 0 [0, 1] → Calls Try.prog 8 #[heapV (some ⟨g, 0, none⟩) 2 2, .int .i64 2] w0 fun e w' => NewAns ex0 4 e w' ∧ Below w0.heap.size w0 w') := ex_table
  have hE : Hid (∀ g c w0, OwnH w0 g c ex0 → Calls Try.prog 5 #[heapV (some ⟨g, 0, none⟩) ex0.length c, .int .i64 4, .string ⟨#[97]⟩] w0 fun e w' => NewAns ex1 14 e w' ∧ Below w0.heap.size w0 w') := ex_first
  have hA : Hid (∀ g c w0, OwnH w0 g c ex1 → Calls Try.prog 7 #[heapV (some ⟨g, 0, none⟩) ex1.length c, .int .i64 4] w0 fun e w' => OneText ⟨#[97]⟩ e w' ∧ Below w0.heap.size w0 w') := ex_all
  have p0 : 0 < ex0.length := by decide
  have p1 : 0 < ex1.length := by decide
  have P0 : Hid (0 < ex0.length) := p0
  have P1 : Hid (0 < ex1.length) := p1
  clear hr p0 p1
  generalize ex0 = E0 at *
  generalize ex1 = E1 at *
  have hli : ¬ ((5000 : Int) < (W.length : Int)) := by omega
  have HKp : Hid (0 < K.length) := hK
  clear hK
  go_enter Try.func4, Try.ntmps4
  go_wp2_with (first | (go_at_call 8; refine (hT.out (w.heap.size + 1) _ (by have := row_two (w.alloc (.cells #[.slice ad W.length cap] 24)); simpa using this)).mono ?_; rintro e w1 ⟨⟨g1, c1, rfl, ho1⟩, hb1⟩; have S1 : Stands w (.slice ad W.length cap) w1.heap.size (sl g1 E0.length c1) (w1.alloc (.cells #[sl g1 E0.length c1] 24)) := Stands.first (((Below.refl _ _).alloc (Nat.le_refl _) _).trans (hb1.mono (by simp))); obtain ⟨h1, x1, f1, l1, m1⟩ := S1.cells) | (go_at_call_of 5 (E0.length); refine (hE.out g1 c1 _ (ho1.alloc _)).mono ?_; rintro e w2 ⟨⟨g2, c2, rfl, ho2⟩, hb2⟩; have S2 := S1.next hb2; obtain ⟨h2, x2, f2, l2, m2⟩ := S2.cells; have n2 := own_not ho2 P1.out x2; have S2' := S2.set (sl g2 E1.length c2); have ho2' : OwnH _ g2 c2 E1 := own_set' ho2 (a := ⟨w1.heap.size, 0, none⟩) n2 (sl g2 E1.length c2)) | (go_at_call 7; refine (hA.out g2 c2 _ ho2').mono ?_; rintro e w3 ⟨⟨b3, off3, c3, rfl, l3', t3⟩, hb3⟩; have S3 := S2'.next hb3; obtain ⟨h3, x3, f3, l3, m3⟩ := S3.cells; clear h1 x1 f1 l1 m1 h2 x2 f2 l2 m2 n2 ho2') | (go_at_call_of 5 (W.length); refine (hI.out _ (words_below HR.out S3.below)).mono ?_; rintro e w4 ⟨⟨g4, c4, rfl, ho4⟩, hb4⟩; have S4 := S3.next hb4; obtain ⟨h4, x4, f4, l4, m4⟩ := S4.cells; have n4 := own_not ho4 HKp.out x4; have S4' := S4.set (sl g4 K.length c4); have ho4' : OwnH _ g4 c4 K := own_set' ho4 (a := ⟨w1.heap.size, 0, none⟩) n4 (sl g4 K.length c4)) | (go_at_call_of 5 (K.length); refine (hJ.out g4 c4 _ ho4').mono ?_; rintro e w5 ⟨⟨g5, c5, rfl, ho5⟩, hb5⟩; have S5 := S4'.next hb5; obtain ⟨h5, x5, f5, l5, m5⟩ := S5.cells; have S5' : Stands w (.slice ad W.length cap) w1.heap.size (sl g4 K.length c4) (w5.alloc (.cells #[sl g5 M.length c5] 24)) := S5.alloc _) | (go_at_call 6; refine (hF.out g5 c5 _ (ho5.alloc _)).mono ?_; rintro e w6 ⟨rfl, hb6⟩; have S6 := S5'.next hb6))
  go_ret
  exact ⟨ret_bool (by simp), S6.below⟩

theorem own_all {W : List Int} {g c : Nat} {w : World} (h : OwnH w g c W) (hw : ∀ k, (Lit.int .i64 (wd W k)).wf = true) : 2 ≤ W.length → ∃ b off, (some ⟨g, 0, none⟩ : Option Addr) = some ⟨b, off, none⟩ ∧ Row w b off W := own_words h hw
/-- Intern of whatever heap, table and text: an error, or what internP tells. -/
theorem intern_any (W : List Int) (o : Int) (t : ByteArray) (hm : W.length ≤ maxLen) :
    (∃ er : Int, (er != 0) = true ∧ ∀ (ad : Option Addr) (cap : Nat) (w0 : World), (2 ≤ W.length → ∃ b off, ad = some ⟨b, off, none⟩ ∧ Row w0 b off W) → Calls Try.prog 5 #[heapV ad W.length cap, .int .i64 o, .string t] w0 fun e w' => e = newErr er ∧ Below w0.heap.size w0 w') ∨
    ((checkOf W).1 = 0 ∧ tableB W o = true ∧ t.size ≤ 60 ∧ ∃ K a, internP W o (nums t) = (K, a, 0) ∧ ∀ (ad : Option Addr) (cap : Nat) (w0 : World), (2 ≤ W.length → ∃ b off, ad = some ⟨b, off, none⟩ ∧ Row w0 b off W) → Calls Try.prog 5 #[heapV ad W.length cap, .int .i64 o, .string t] w0 fun e w' => NewAns K a e w' ∧ Below w0.heap.size w0 w') := by
  by_cases h : (checkOf W).1 = 0
  · obtain ⟨hf, hu⟩ := check_ok h
    cases ht : tableB W o with
    | false =>
      refine Or.inl ⟨3, by decide, fun ad cap w0 h0 => intern_err W ad cap o 3 t w0 h0 (by decide) fun w1 h1 => searched_err W ad cap o 3 t w1 h1 (by decide) fun w2 h2 => ?_⟩
      cases hth : thingB W o with
      | false => exact seating_kind W ad cap o w2 h2 h hth
      | true =>
        obtain ⟨p, rfl, hmem, _⟩ := thing_even hth
        exact seating_not W ad cap p w2 h2 h hth hmem ht
    | true =>
      obtain ⟨p, rfl, _, _⟩ := thing_even (table_out hu ht).1
      obtain ⟨t1, t2, _⟩ := tab_facts h ht
      by_cases hl : t.size ≤ 60
      · have hI := fun ad cap w0 h0 => intern_table W ad cap p t w0 h0 h ht hl
        obtain ⟨⟨K, a, er⟩, hr⟩ : ∃ r, internP W (2 * (p : Int)) (nums t) = r := ⟨_, rfl⟩
        rw [hr] at hI
        by_cases he : er = 0
        · subst he
          refine Or.inr ⟨h, rfl, hl, K, a, hr, fun ad cap w0 h0 => (hI ad cap w0 h0).mono fun e w' hp => ⟨?_, hp.2⟩⟩
          rcases hp.1 with ⟨_, hn⟩ | ⟨hn, _⟩
          · exact hn
          · exact absurd rfl hn
        · refine Or.inl ⟨er, by simpa using he, fun ad cap w0 h0 => (hI ad cap w0 h0).mono fun e w' hp => ⟨?_, hp.2⟩⟩
          rcases hp.1 with ⟨hn, _⟩ | ⟨_, _, _, hn⟩
          · exact absurd hn he
          · exact hn
      · exact Or.inl ⟨1, by decide, fun ad cap w0 h0 => intern_err W ad cap _ 1 t w0 h0 (by decide) fun w1 h1 => searched_size W ad cap p t w1 h1 h t1 t2 ht (by omega)⟩
  · exact Or.inl ⟨7, by decide, fun ad cap w0 h0 => intern_err W ad cap o 7 t w0 h0 (by decide) fun w1 h1 => searched_err W ad cap o 7 t w1 h1 (by decide) fun w2 h2 => seating_heap W ad cap o w2 hm h2 h⟩
theorem find_at {W : List Int} {o a : Int} {t : ByteArray} (h : (checkOf W).1 = 0) (ht : tableB W o = true) (hl : t.size ≤ 60) (hw : ∀ k, (Lit.int .i64 (wd W k)).wf = true) (hf : findP W o (nums t) = (a, 0)) (g c : Nat) (w0 : World) (h0 : OwnH w0 g c W) :
    Calls Try.prog 6 #[heapV (some ⟨g, 0, none⟩) W.length c, .int .i64 o, .string t] w0 fun e w' => e = .returned (.tuple #[.int .i64 a, .int .i64 0]) ∧ Below w0.heap.size w0 w' := by
  obtain ⟨p, rfl, _, _⟩ := thing_even (table_out (check_ok h).2 ht).1
  have := find_table W (some ⟨g, 0, none⟩) c p t w0 (own_all h0 hw) h ht hl
  rw [hf] at this
  exact this

theorem walk (W : List Int) (ad : Option Addr) (cap : Nat) (o : Int) (s t : ByteArray) (w : World) (hm : W.length ≤ maxLen) (hr : 2 ≤ W.length → ∃ b off, ad = some ⟨b, off, none⟩ ∧ Row w b off W) :
    Calls Try.prog 4 #[.agg #[.slice ad W.length cap], .int .i64 o, .string s, .string t] w fun e w' => e = .returned (.bool true) ∧ Below w.heap.size w w' := by
  by_cases hl : W.length ≤ 5000
  · rcases intern_any W o s hm with ⟨er, her, hI⟩ | ⟨hc, ht, hs, K, a, hK, hI⟩
    · exact once_err W ad cap o s t w hr hl er her (hI ad cap)
    · obtain ⟨h2, hl2, _, _⟩ := front_out (check_ok hc).1
      have hw : ∀ k, (Lit.int .i64 (wd W k)).wf = true := by
        obtain ⟨b, off, _, hrow⟩ := hr h2
        exact hrow.wf
      have hsl : (nums s).length ≤ 60 := by rw [nums_length]; exact hs
      obtain ⟨kc, kt, kg, kf⟩ := intern_ok hc ht hsl (nums_byte s) hK
      have kw := intern_wf hc hw (nums_byte s) hsl hK
      have kp := intern_pos h2 hK
      have km : K.length ≤ maxLen := by have := (front_out (check_ok kc).1).2.1; unfold maxLen; omega
      rcases intern_any K o t km with ⟨er, her, hJ⟩ | ⟨_, _, htl, M, b, hM, hJ⟩
      · exact once_two W ad cap o s t w hr hl K a kp er her (hI ad cap) (fun g c w0 h0 => hJ _ c w0 (own_all h0 kw)) (find_at kc kt hs kw kf)
      · have htl' : (nums t).length ≤ 60 := by rw [nums_length]; exact htl
        obtain ⟨mc, mt, _, _⟩ := intern_ok kc kt htl' (nums_byte t) hM
        have mw := intern_wf kc kw (nums_byte t) htl' hM
        obtain ⟨o1, o2⟩ := names_once hc ht hsl (nums_byte s) htl' (nums_byte t) hK hM
        have hbe : ((b == a) == (s.toList == t.toList)) = true := by
          have e : (s.toList == t.toList) = (nums s == nums t) := by rw [← str_same (nums_byte s) t, str_nums]
          rw [e]
          by_cases hab : b = a
          · have := o2.1 hab
            rw [hab, this]; simp
          · have hne : nums s ≠ nums t := fun x => hab (o2.2 x.symm)
            rw [beq_eq_false_iff_ne.2 hab, beq_eq_false_iff_ne.2 hne]; rfl
        exact once_ok W ad cap o s t w hr hl K a kp M b hbe (hI ad cap) (fun g c w0 h0 => hJ _ c w0 (own_all h0 kw)) (find_at mc mt hs mw o1)
  · exact once_big W ad cap o s t w hm hr (by omega)

set_option maxRecDepth 100000 in
theorem lifted (os : Os) (started : os.Started) (H : Type) (enc : TypeId × Value → H) :
    ReturnsInHanded {} Try.checked os 4 .any (Rows.namesOnceSpec.pre6 enc Try.prog Try.f4 Rows.namesOnceRow.domain false) (Rows.namesOnceSpec.post enc Try.prog Try.f4 false true false false) := by
  refine returnsInHanded_of_change (C := Try.checked) own started (by kernel_rfl) Try.func4
    (ChangeSpec.witness6 (enc := enc) (C := Try.checked) false ⟨#[], #[.agg #[.slice none 0 0], .int .i64 0, .string ByteArray.empty, .string ByteArray.empty], []⟩ 8 (by kernel_rfl) (by kernel_rfl) (by kernel_rfl) (by kernel_rfl)) ?_
  intro W base args ds gs before hval0 hW hcnd _
  have hval : ∀ (j : Nat) t v, Try.f4.params[j]? = some t → args[j]? = some v → Value.okWide Try.prog W .any base t v := hval0
  have hW' := hW
  obtain ⟨p, q, hA0, hV, rfl, hfz, hnd⟩ := hW
  have hA : DataW.TrodAll enc Try.prog W 0 (fun _ => true) true Try.f4.params.toList args.toList ds p := hA0
  rw [Try.params4] at hA hval
  obtain ⟨v0, vs0, d0, ds0, p0, q0, hargs, rfl, rfl, h0, r0⟩ := trodAll_cons hA
  obtain ⟨v1, vs1, d1, ds1, p1, q1, rfl, rfl, rfl, h1, r1⟩ := trodAll_cons r0
  obtain ⟨v2, vs2, d2, ds2, p2, q2, rfl, rfl, rfl, h2, r2⟩ := trodAll_cons r1
  obtain ⟨v3, vs3, d3, ds3, p3, q3, rfl, rfl, rfl, h3, r3⟩ := trodAll_cons r2
  obtain ⟨rfl, rfl, rfl⟩ := trodAll_nil r3
  obtain rfl : args = #[v0, v1, v2, v3] := by cases args; simp_all
  obtain ⟨rfl, rfl⟩ := trodVars_none hV
  have lt0 : ∀ x ∈ p0, x.block < W.heap.size := by obtain ⟨m, hm⟩ := h0; exact DataW.trod_lt m _ _ _ hm
  obtain ⟨ad, cap, Ws, rfl, hm, hr⟩ := open_heap (hval 0 24 v0 rfl rfl) h0
  obtain ⟨a1, rfl, rfl, rfl, w1⟩ := open_int lt3 (hval 1 3 v1 rfl rfl) h1
  obtain ⟨s2, rfl, rfl, rfl, w2⟩ := Go.ChangeMaps.open_string tyStr (hval 2 9 v2 rfl rfl) h2
  obtain ⟨s3, rfl, rfl, rfl, w3⟩ := Go.ChangeMaps.open_string tyStr (hval 3 9 v3 rfl rfl) h3
  clear hA0 hval0
  refine (walk Ws ad cap a1 s2 s3 W hm hr).mono fun e W' ⟨he, bel⟩ => ?_
  subst he
  exact ⟨_, rfl, _, _, _, [], _, [], hW', trodAll_mk1 (shut_bool lt4 _), (trodAll_cons_mk (Below.trod laidOut (by kernel_rfl) (of_decide_eq_true (by kernel_rfl)) h0 bel lt0) (trodAll_cons_mk (shut_int lt3 w1) (trodAll_cons_mk (Go.ChangeMaps.shut_string tyStr w2) (trodAll_cons_mk (Go.ChangeMaps.shut_string tyStr w3) trodAll_mk0)))), rfl, bel.frame _, fun h => by cases h⟩

theorem over : Rows.namesOnceRow.holds Try.pinned (OpenSpec.ofChange Rows.namesOnceSpec) :=
  OpenClaim.holds_of_wide 4 Try.f4 rfl rfl rfl rfl rfl rfl rfl ⟨rfl, rfl, rfl, rfl, rfl⟩ rfl rfl rfl rfl rfl (by kernel_rfl) Try.func4 (by kernel_rfl)
    (of_decide_eq_true (by kernel_rfl)) (by unfold Func.isWrapper; first | (rw [if_pos (by decide +kernel)]; kernel_rfl) | (rw [if_neg (by decide +kernel)]; exact ⟨rfl, rfl⟩))
    (fun os started H enc _ => lifted os started H enc)

end Go.Proofs.Ytmgmbgacdjebgaa.namesOnce
namespace Go.Proofs.Ytmgmbgacdjebgaa
/-- The statement. -/
theorem namesOnce_holds : Rows.NamesOnceSaid := namesOnce.over
#print axioms namesOnce_holds
end Go.Proofs.Ytmgmbgacdjebgaa
