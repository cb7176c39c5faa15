/- HeapPuts holds for every heap and all numbers that can come in, with no condition: the program tells each thing, and changes each slot, or says what stands against it. -/
import Derived.Test.YtpapaadclkdbkaaFrame
import Derived.Test.YtpapaadclkdbkaaRefLoop
import Derived.Test.YtpapaadclkdbkaaRefPutGood
import Derived.Test.YtpapaadclkdbkaaRefNew
namespace Go.Proofs.Ytpapaadclkdbkaa.heapPuts
open Go.ChangeShapes Go.WideShapes Go.ChangeAt Go.RowKit Go.Joins Go.Deep

set_option maxRecDepth 20000 in
theorem open_heap2 {H : Type} {enc : TypeId × Value → H} {w : World} {base b0 : Nat} {spare : Nat → Bool} {held : Bool} {r : Reach} {v : Value} {d : DataW H} {p : List MemPlace} (hv : Value.okWide Try.prog w r b0 24 v) (h : DataW.Trod enc Try.prog w base spare held 24 v d p) :
    ∃ (ad : Option Addr) (cap : Nat) (W : List Int), v = .agg #[.slice ad W.length cap] ∧ W.length ≤ maxLen ∧ W.length ≤ cap ∧ (2 ≤ W.length → ∃ b off, ad = some ⟨b, off, none⟩ ∧ Row w b off W) := by
  obtain ⟨v0, y0, n, rfl, hy⟩ := open_agg1 Try.underlying24 (by kernel_rfl) (by kernel_rfl) hv h
  obtain ⟨a, l, c, hs⟩ := slice_form lt30 hy
  simp at hs
  subst hs
  have hcp : l ≤ c := by
    rcases open_ints lt30 lt3 (by kernel_rfl) hy with ⟨hcs, _⟩ | ⟨y, l', c', zs, hcs, _, hl, _⟩
    · simp at hcs; omega
    · simp at hcs; omega
  obtain ⟨hm, W, rfl, hr⟩ := open_nums hy
  exact ⟨a, c, W, rfl, hm, hcp, fun h => hr (by omega)⟩

theorem heap_below {W : List Int} {ad : Option Addr} {w w' : World} (hr : 2 ≤ W.length → ∃ b off, ad = some ⟨b, off, none⟩ ∧ Row w b off W) (hb : Below w.heap.size w w') : 2 ≤ W.length → ∃ b off, ad = some ⟨b, off, none⟩ ∧ Row w' b off W :=
  fun h => let ⟨b, off, e, r⟩ := hr h; ⟨b, off, e, r.same hb⟩
theorem keep {w w' : World} {o : Obj} (hb : Below (w.alloc o).heap.size (w.alloc o) w') {a : Addr} {v : Value} (h : w.cell? a = some v) : w'.cell? a = some v := by
  have hlt := World.block_lt_of_cell? w a h
  rw [(below_call hb).cell hlt]; exact h
theorem grew {w w' : World} {o : Obj} (hb : Below (w.alloc o).heap.size (w.alloc o) w') : w.heap.size < w'.heap.size := by
  have := hb.size; simp at this; omega
theorem four {w w' : World} {x0 x1 x2 x3 : Value} {t : TypeId} (hb : Below (w.alloc (.cells #[x0, x1, x2, x3] t)).heap.size (w.alloc (.cells #[x0, x1, x2, x3] t)) w') :
    w'.cell? ⟨w.heap.size, 0, none⟩ = some x0 ∧ w'.cell? ⟨w.heap.size, 1, none⟩ = some x1 ∧ w'.cell? ⟨w.heap.size, 2, none⟩ = some x2 ∧ w'.cell? ⟨w.heap.size, 3, none⟩ = some x3 := by
  have A : ∀ j, w'.cell? ⟨w.heap.size, j, none⟩ = #[x0, x1, x2, x3][j]? := fun j => by
    rw [hb.cell (p := ⟨w.heap.size, j, none⟩) (by simp)]; exact cell_at2 rfl
  exact ⟨A 0, A 1, A 2, A 3⟩

/-- What Look says. -/
def LookSays (xs : List Int) (c h f er : Int) (e : Ending) (w' : World) : Prop := ∃ ad k, e = .returned (.tuple #[thingV c h f (.slice ad xs.length k), .int .i64 er]) ∧ Reads w' (.slice ad xs.length k) xs
/-- What Put says. -/
def PutSays (xs : List Int) (er : Int) (e : Ending) (w' : World) : Prop := ∃ ad k, e = .returned (.tuple #[.agg #[.slice ad xs.length k], .int .i64 er]) ∧ Reads w' (.slice ad xs.length k) xs

theorem says_none {w : World} : Reads w (.slice none 0 0) [] := ⟨none, 0, rfl, fun h => by simp at h⟩
theorem look_says {W : List Int} {p B : Nat} {e : Ending} {w : World} (h : LookAns W p B e w) : LookSays (slotsOf W p) (wd W p) (wd W (p + 1)) (formAt W p) 0 e w := by
  obtain ⟨v, he, hs⟩ := h
  have hr := hs.reads
  obtain ⟨ad, k, rfl, _⟩ := hs
  exact ⟨ad, k, he, hr⟩
theorem put_says {W' : List Int} {e : Ending} {w : World} (h : PutAns W' e w) : PutSays W' 0 e w := by
  obtain ⟨g, cap, he, hown⟩ := h
  exact ⟨_, _, he, Reads.of_own hown⟩

theorem both_look (W : List Int) (ad : Option Addr) (cap : Nat) (o : Int) (h : (checkOf W).1 = 0) (hcp : W.length ≤ cap) :
    ∃ xs c hh f er, xs.length ≤ 2000 ∧
      (∀ w, (2 ≤ W.length → ∃ b off, ad = some ⟨b, off, none⟩ ∧ Row w b off W) → Calls Try.prog 13 #[heapV ad W.length cap, .int .i64 o] w fun e w' => LookSays xs c hh f er e w' ∧ Below w.heap.size w w') ∧
      (∀ w, (2 ≤ W.length → ∃ b off, ad = some ⟨b, off, none⟩ ∧ Row w b off W) → Calls Try.prog 15 #[heapV ad W.length cap, .int .i64 o] w fun e w' => LookSays xs c hh f er e w' ∧ Below w.heap.size w w') := by
  obtain ⟨hf, hu⟩ := check_ok h
  obtain ⟨h2, hl, _⟩ := front_out hf
  cases ho : thingB W o with
  | false =>
    refine ⟨[], 0, 0, 0, 3, by simp, fun w hr => (look_kind W ad cap o w hr h ho).mono fun e w' hp => ⟨⟨none, 0, hp.1, says_none⟩, hp.2⟩, fun w hr => ?_⟩
    obtain ⟨b, off, rfl, hrow⟩ := hr h2
    exact (rlook_kind W b off cap o w hrow hu hl ho).mono fun e w' hp => ⟨⟨none, 0, hp.1, says_none⟩, hp.2⟩
  | true =>
    obtain ⟨p, rfl, hmem, _⟩ := thing_even ho
    have hfo := fits_out (place_fit hu hmem).2.2.1
    refine ⟨slotsOf W p, wd W p, wd W (p + 1), formAt W p, 0, by rw [slots_length hfo.2.2.2.2]; omega, fun w hr => (look_yes W ad cap p w hr h ho hmem).mono fun e w' hp => ⟨look_says hp.1, hp.2⟩, fun w hr => ?_⟩
    obtain ⟨b, off, rfl, hrow⟩ := hr h2
    exact (rlook_yes W b off cap p w hrow hu hl hcp ho hmem).mono fun e w' hp => ⟨look_says hp.1, hp.2⟩

theorem both_put (W : List Int) (ad : Option Addr) (cap : Nat) (o at' what : Int) (h : (checkOf W).1 = 0) (hcp : W.length ≤ cap) :
    ∃ xs er, xs.length ≤ 2000 ∧
      (∀ w, (2 ≤ W.length → ∃ b off, ad = some ⟨b, off, none⟩ ∧ Row w b off W) → Calls Try.prog 14 #[heapV ad W.length cap, .int .i64 o, .int .i64 at', .int .i64 what] w fun e w' => PutSays xs er e w' ∧ Below w.heap.size w w') ∧
      (∀ w, (2 ≤ W.length → ∃ b off, ad = some ⟨b, off, none⟩ ∧ Row w b off W) → Calls Try.prog 17 #[heapV ad W.length cap, .int .i64 o, .int .i64 at', .int .i64 what] w fun e w' => PutSays xs er e w' ∧ Below w.heap.size w w') := by
  obtain ⟨hf, hu⟩ := check_ok h
  obtain ⟨h2, hl, _⟩ := front_out hf
  cases ho : thingB W o with
  | false =>
    refine ⟨[], 3, by simp, fun w hr => (put_kind W ad cap o at' what w hr h ho).mono fun e w' hp => ⟨⟨none, 0, hp.1, says_none⟩, hp.2⟩, fun w hr => ?_⟩
    obtain ⟨b, off, rfl, hrow⟩ := hr h2
    exact (rput_kind W b off cap o at' what w hrow hu hl ho).mono fun e w' hp => ⟨⟨none, 0, hp.1, says_none⟩, hp.2⟩
  | true =>
    obtain ⟨p, rfl, hmem, _⟩ := thing_even ho
    by_cases hat : at' < 0 ∨ (slotsAt W p : Int) ≤ at'
    · refine ⟨[], 4, by simp, fun w hr => (put_range W ad cap p at' what w hr h ho hmem hat).mono fun e w' hp => ⟨⟨none, 0, hp.1, says_none⟩, hp.2⟩, fun w hr => ?_⟩
      obtain ⟨b, off, rfl, hrow⟩ := hr h2
      exact (rput_range W b off cap p at' what w hrow hu hl hcp ho hmem hat).mono fun e w' hp => ⟨⟨none, 0, hp.1, says_none⟩, hp.2⟩
    · obtain ⟨k, rfl⟩ := Int.eq_ofNat_of_zero_le (a := at') (by omega)
      have hk : k < slotsAt W p := by omega
      cases hst : standB W (formAt W p) what with
      | false =>
        refine ⟨[], 2, by simp, fun w hr => (put_form W ad cap p k what w hr h ho hmem hk hst).mono fun e w' hp => ⟨⟨none, 0, hp.1, says_none⟩, hp.2⟩, fun w hr => ?_⟩
        obtain ⟨b, off, rfl, hrow⟩ := hr h2
        exact (rput_form W b off cap p k what w hrow hu hl hcp ho hmem hk hst).mono fun e w' hp => ⟨⟨none, 0, hp.1, says_none⟩, hp.2⟩
      | true =>
        refine ⟨W.set (p + 3 + k) what, 0, by simpa using hl, fun w hr => (put_good W ad cap p k what w hr h ho hmem hk hst).mono fun e w' hp => ⟨put_says hp.1, hp.2⟩, fun w hr => ?_⟩
        obtain ⟨b, off, rfl, hrow⟩ := hr h2
        exact (rput_good W b off cap p k what w hrow hu hl hcp ho hmem hk hst).mono fun e w' hp => ⟨put_says hp.1, hp.2⟩

theorem big (ad : Option Addr) (n cap : Nat) (o at' what : Int) (w : World) (hm : n ≤ maxLen) (h : 5000 < n) :
    Calls Try.prog 4 #[.agg #[.slice ad n cap], .int .i64 o, .int .i64 at', .int .i64 what] w fun e w' => e = .returned (.bool true) ∧ Below w.heap.size w w' := by
  unfold maxLen at hm
  go_enter Try.func4, Try.ntmps4
  go_wp2
  go_ret
  exact ⟨rfl, (Below.refl _ _).alloc (Nat.le_refl _) _⟩

set_option maxRecDepth 100000 in
set_option maxHeartbeats 4000000 in
theorem walk_no (W : List Int) (ad : Option Addr) (cap : Nat) (o at' what : Int) (w : World) (hm : W.length ≤ maxLen) (hl : W.length ≤ 5000) (hr : 2 ≤ W.length → ∃ b off, ad = some ⟨b, off, none⟩ ∧ Row w b off W) (h : (checkOf W).1 ≠ 0) :
    Calls Try.prog 4 #[.agg #[.slice ad W.length cap], .int .i64 o, .int .i64 at', .int .i64 what] w fun e w' => e = .returned (.bool true) ∧ Below w.heap.size w w' := by
  have HR : Hid (2 ≤ W.length → ∃ b off, ad = some ⟨b, off, none⟩ ∧ Row w b off W) := hr
  have h29 : Hid (∀ w0, (2 ≤ W.length → ∃ b off, ad = some ⟨b, off, none⟩ ∧ Row w0 b off W) → Calls Try.prog 13 #[heapV ad W.length cap, .int .i64 o] w0 fun e w' => e = lookErr 7 ∧ Below w0.heap.size w0 w') := fun w0 h0 => look_heap W ad cap o w0 hm h0 h
  have h30 : Hid (∀ w0, (2 ≤ W.length → ∃ b off, ad = some ⟨b, off, none⟩ ∧ Row w0 b off W) → Calls Try.prog 14 #[heapV ad W.length cap, .int .i64 o, .int .i64 at', .int .i64 what] w0 fun e w' => e = putErr 7 ∧ Below w0.heap.size w0 w') := fun w0 h0 => put_heap W ad cap o at' what w0 hm h0 h
  have h22 : Hid (∀ w0, (2 ≤ W.length → ∃ b off, ad = some ⟨b, off, none⟩ ∧ Row w0 b off W) → Calls Try.prog 10 #[heapV ad W.length cap] w0 fun e w' => e = .returned (.agg #[.int .i64 (checkOf W).1, .int .i64 (checkOf W).2]) ∧ Below w0.heap.size w0 w') := fun w0 h0 => rcheck_any W ad cap w0 hm h0
  generalize checkOf W = F at *
  have hb : (F.1 != 0) = true := by simpa using h
  clear h hr
  go_enter Try.func4, Try.ntmps4
  go_wp2_with (first | (go_at_call 13; refine (h29.out _ (reads1 HR.out)).mono ?_; rintro e w1 ⟨rfl, hb1⟩; have k1 := box_one hb1; have z1 := grew hb1) | (go_at_call 14; refine (h30.out _ (reads1 (heap_below (reads1 HR.out) hb1))).mono ?_; rintro e w2 ⟨rfl, hb2⟩; have k2 := keep hb2 k1; have z2 := grew hb2; have z02 : w.heap.size < w2.heap.size := (by omega); obtain ⟨t0, t1, t2, t3⟩ := four hb2) | (go_at_call 10; refine (h22.out _ (reads1 (heap_below (reads1 (heap_below (reads1 HR.out) hb1)) hb2))).mono ?_; rintro e w3 ⟨rfl, hb3⟩; have z3 := grew hb3; have z13 : w1.heap.size < w3.heap.size := (by omega); have kk3 := box_one hb3; have s0 := keep hb3 t0; have s1 := keep hb3 t1; have s2 := keep hb3 t2; have s3 := keep hb3 t3))
  go_ret
  exact ⟨rfl, ((below_call hb1).trans (((below_call hb2).trans ((below_call hb3).mono (below_call hb2).size)).mono (below_call hb1).size)).alloc (by omega) _⟩

set_option maxRecDepth 100000 in
set_option maxHeartbeats 4000000 in
theorem walk_yes (W : List Int) (ad : Option Addr) (cap : Nat) (o at' what : Int) (w : World) (hm : W.length ≤ maxLen) (hcp : W.length ≤ cap) (hl : W.length ≤ 5000) (hr : 2 ≤ W.length → ∃ b off, ad = some ⟨b, off, none⟩ ∧ Row w b off W) (h : (checkOf W).1 = 0) :
    Calls Try.prog 4 #[.agg #[.slice ad W.length cap], .int .i64 o, .int .i64 at', .int .i64 what] w fun e w' => e = .returned (.bool true) ∧ Below w.heap.size w w' := by
  have HR : Hid (2 ≤ W.length → ∃ b off, ad = some ⟨b, off, none⟩ ∧ Row w b off W) := hr
  obtain ⟨xs, c, hh, f, er, hx, h29', h31'⟩ := both_look W ad cap o h hcp
  obtain ⟨ys, es, hy, h30', h32'⟩ := both_put W ad cap o at' what h hcp
  have h29 : Hid (∀ w0, (2 ≤ W.length → ∃ b off, ad = some ⟨b, off, none⟩ ∧ Row w0 b off W) → Calls Try.prog 13 #[heapV ad W.length cap, .int .i64 o] w0 fun e w' => LookSays xs c hh f er e w' ∧ Below w0.heap.size w0 w') := h29'
  have h31 : Hid (∀ w0, (2 ≤ W.length → ∃ b off, ad = some ⟨b, off, none⟩ ∧ Row w0 b off W) → Calls Try.prog 15 #[heapV ad W.length cap, .int .i64 o] w0 fun e w' => LookSays xs c hh f er e w' ∧ Below w0.heap.size w0 w') := h31'
  have h30 : Hid (∀ w0, (2 ≤ W.length → ∃ b off, ad = some ⟨b, off, none⟩ ∧ Row w0 b off W) → Calls Try.prog 14 #[heapV ad W.length cap, .int .i64 o, .int .i64 at', .int .i64 what] w0 fun e w' => PutSays ys es e w' ∧ Below w0.heap.size w0 w') := h30'
  have h32 : Hid (∀ w0, (2 ≤ W.length → ∃ b off, ad = some ⟨b, off, none⟩ ∧ Row w0 b off W) → Calls Try.prog 17 #[heapV ad W.length cap, .int .i64 o, .int .i64 at', .int .i64 what] w0 fun e w' => PutSays ys es e w' ∧ Below w0.heap.size w0 w') := h32'
  have h22 : Hid (∀ w0, (2 ≤ W.length → ∃ b off, ad = some ⟨b, off, none⟩ ∧ Row w0 b off W) → Calls Try.prog 10 #[heapV ad W.length cap] w0 fun e w' => e = .returned (.agg #[.int .i64 0, .int .i64 0]) ∧ Below w0.heap.size w0 w') := fun w0 h0 => by have := rcheck_any W ad cap w0 hm h0; rw [see_fst h] at this; exact this
  have hxx : (xs == xs) = true := by simp
  clear h hr h29' h30' h31' h32'
  go_enter Try.func4, Try.ntmps4
  go_wp2_with (first | (go_at_call 13; refine (h29.out _ (reads1 HR.out)).mono ?_; rintro e w1 ⟨⟨ad1, c1, rfl, hr1⟩, hb1⟩; have k1 := box_one hb1; have z1 := grew hb1; have HR1 := heap_below (reads1 HR.out) hb1; have HH1 : Hid (2 ≤ W.length → ∃ b off, ad = some ⟨b, off, none⟩ ∧ Row w1 b off W) := HR1; clear HR1) | (go_at_call 14; refine (h30.out _ (reads1 HH1.out)).mono ?_; rintro e w2 ⟨⟨ad2, c2, rfl, hr2⟩, hb2⟩; have k2 := keep hb2 k1; have z2 := grew hb2; have z02 : w.heap.size < w2.heap.size := (by omega); obtain ⟨t0, t1, t2, t3⟩ := four hb2; have HR2 := heap_below (reads1 HH1.out) hb2; have HH2 : Hid (2 ≤ W.length → ∃ b off, ad = some ⟨b, off, none⟩ ∧ Row w2 b off W) := HR2; clear HR2; have hx2 := hr1.below (below_call hb2)) | (go_at_call 10; refine (h22.out _ (reads1 HH2.out)).mono ?_; rintro e w3 ⟨rfl, hb3⟩; have k3 := keep hb3 k2; have z3 := grew hb3; have z03 : w.heap.size < w3.heap.size := (by omega); have kk3 := box_one hb3; have s0 := keep hb3 t0; have s1 := keep hb3 t1; have s2 := keep hb3 t2; have s3 := keep hb3 t3; have HR3 := heap_below (reads1 HH2.out) hb3; have HH3 : Hid (2 ≤ W.length → ∃ b off, ad = some ⟨b, off, none⟩ ∧ Row w3 b off W) := HR3; clear HR3 t0 t1 t2 t3; have hx3 := hx2.below (below_call hb3); have hy3 := hr2.below (below_call hb3)) | (go_at_call 15; refine (h31.out _ (reads1 HH3.out)).mono ?_; rintro e w4 ⟨⟨ad4, c4, rfl, hr4⟩, hb4⟩; have k4 := keep hb4 k3; have z4 := grew hb4; have z04 : w.heap.size < w4.heap.size := (by omega); have z14 : w1.heap.size < w4.heap.size := (by omega); have z24 : w2.heap.size < w4.heap.size := (by omega); have kk4 := keep hb4 kk3; have q0 := keep hb4 s0; have q1 := keep hb4 s1; have q2 := keep hb4 s2; have q3 := keep hb4 s3; have HR4 := heap_below (reads1 HH3.out) hb4; have HH4 : Hid (2 ≤ W.length → ∃ b off, ad = some ⟨b, off, none⟩ ∧ Row w4 b off W) := HR4; clear HR4 s0 s1 s2 s3; have hx4 := hx3.below (below_call hb4); have hy4 := hy3.below (below_call hb4)) | (go_at_call 16; refine (ints_any xs xs _ _ _ (hx4.below ((Below.refl _ _).alloc (Nat.le_refl _) _)) (hr4.below ((Below.refl _ _).alloc (Nat.le_refl _) _)) (by omega)).mono ?_; rintro e w5 ⟨rfl, m, rfl⟩) | (go_at_call 17; refine (h32.out _ (heap_below (reads1 HH4.out) (below_drewN (Below.refl _ _) m))).mono ?_; rintro e w6 ⟨⟨ad6, c6, rfl, hr6⟩, hb6⟩; have hb46 : Below w4.heap.size w4 w6 := (below_drewN ((Below.refl _ _).alloc (Nat.le_refl _) _) m).trans (hb6.mono (by simp [World.drewN])); have z6 := hb46.size; have z26 : w2.heap.size < w6.heap.size := (by omega); have kk6 := hb46.cell (p := ⟨w2.heap.size, 0, none⟩) (by exact z24); rw [kk4] at kk6; have hy6 := hy4.below hb46) | (go_at_call 12; refine (heaps_any ys ys _ _ _ (hy6.below ((Below.refl _ _).alloc (Nat.le_refl _) _)) (hr6.below ((Below.refl _ _).alloc (Nat.le_refl _) _)) (by omega)).mono ?_; rintro e w7 ⟨rfl, hb7⟩))
  go_ret
  refine ⟨ret_bool (by simp), ?_⟩
  exact (below_call hb1).trans (((below_call hb2).trans (((below_call hb3).trans (((below_call hb4).trans ((hb46.trans ((below_call hb7).mono hb46.size)).mono (below_call hb4).size)).mono (below_call hb3).size)).mono (below_call hb2).size)).mono (below_call hb1).size)

theorem walk (W : List Int) (ad : Option Addr) (cap : Nat) (o at' what : Int) (w : World) (hm : W.length ≤ maxLen) (hcp : W.length ≤ cap) (hr : 2 ≤ W.length → ∃ b off, ad = some ⟨b, off, none⟩ ∧ Row w b off W) :
    Calls Try.prog 4 #[.agg #[.slice ad W.length cap], .int .i64 o, .int .i64 at', .int .i64 what] w fun e w' => e = .returned (.bool true) ∧ Below w.heap.size w w' := by
  by_cases hl : W.length ≤ 5000
  · by_cases h : (checkOf W).1 = 0
    · exact walk_yes W ad cap o at' what w hm hcp hl hr h
    · exact walk_no W ad cap o at' what w hm hl hr h
  · exact big ad W.length cap o at' what w hm (by omega)

set_option maxRecDepth 100000 in
theorem lifted (os : Os) (started : os.Started) (H : Type) (enc : TypeId × Value → H) :
    ReturnsInHanded {} Try.checked os 4 .any (Rows.heapPutsSpec.pre6 enc Try.prog Try.f4 Rows.heapPutsRow.domain false) (Rows.heapPutsSpec.post enc Try.prog Try.f4 false true false false) := by
  refine returnsInHanded_of_change (C := Try.checked) own started (by kernel_rfl) Try.func4
    (ChangeSpec.witness6 (enc := enc) (C := Try.checked) false ⟨#[], #[.agg #[.slice none 0 0], .int .i64 0, .int .i64 0, .int .i64 0], []⟩ 8 (by kernel_rfl) (by kernel_rfl) (by kernel_rfl) (by kernel_rfl)) ?_
  intro W base args ds gs before hval0 hW hcnd _
  have hval : ∀ (j : Nat) t v, Try.f4.params[j]? = some t → args[j]? = some v → Value.okWide Try.prog W .any base t v := hval0
  have hW' := hW
  obtain ⟨p, q, hA0, hV, rfl, hfz, hnd⟩ := hW
  have hA : DataW.TrodAll enc Try.prog W 0 (fun _ => true) true Try.f4.params.toList args.toList ds p := hA0
  rw [Try.params4] at hA hval
  obtain ⟨v0, vs0, d0, ds0, p0, q0, hargs, rfl, rfl, h0, r0⟩ := trodAll_cons hA
  obtain ⟨v1, vs1, d1, ds1, p1, q1, rfl, rfl, rfl, h1, r1⟩ := trodAll_cons r0
  obtain ⟨v2, vs2, d2, ds2, p2, q2, rfl, rfl, rfl, h2, r2⟩ := trodAll_cons r1
  obtain ⟨v3, vs3, d3, ds3, p3, q3, rfl, rfl, rfl, h3, r3⟩ := trodAll_cons r2
  obtain ⟨rfl, rfl, rfl⟩ := trodAll_nil r3
  obtain rfl : args = #[v0, v1, v2, v3] := by cases args; simp_all
  obtain ⟨rfl, rfl⟩ := trodVars_none hV
  have lt0 : ∀ x ∈ p0, x.block < W.heap.size := by obtain ⟨m, hm⟩ := h0; exact DataW.trod_lt m _ _ _ hm
  obtain ⟨ad, cap, Ws, rfl, hm, hcp, hr⟩ := open_heap2 (hval 0 24 v0 rfl rfl) h0
  obtain ⟨a1, rfl, rfl, rfl, w1⟩ := open_int lt3 (hval 1 3 v1 rfl rfl) h1
  obtain ⟨a2, rfl, rfl, rfl, w2⟩ := open_int lt3 (hval 2 3 v2 rfl rfl) h2
  obtain ⟨a3, rfl, rfl, rfl, w3⟩ := open_int lt3 (hval 3 3 v3 rfl rfl) h3
  clear hA0 hval0
  refine (walk Ws ad cap a1 a2 a3 W hm hcp hr).mono fun e W' ⟨he, bel⟩ => ?_
  subst he
  exact ⟨_, rfl, _, _, _, [], _, [], hW', trodAll_mk1 (shut_bool lt4 _), (trodAll_cons_mk (Below.trod laidOut (by kernel_rfl) (of_decide_eq_true (by kernel_rfl)) h0 bel lt0) (trodAll_cons_mk (shut_int lt3 w1) (trodAll_cons_mk (shut_int lt3 w2) (trodAll_cons_mk (shut_int lt3 w3) trodAll_mk0)))), rfl, bel.frame _, fun h => by cases h⟩

theorem over : Rows.heapPutsRow.holds Try.pinned (OpenSpec.ofChange Rows.heapPutsSpec) :=
  OpenClaim.holds_of_wide 4 Try.f4 rfl rfl rfl rfl rfl rfl rfl ⟨rfl, rfl, rfl, rfl, rfl⟩ rfl rfl rfl rfl rfl (by kernel_rfl) Try.func4 (by kernel_rfl)
    (of_decide_eq_true (by kernel_rfl)) (by unfold Func.isWrapper; first | (rw [if_pos (by decide +kernel)]; kernel_rfl) | (rw [if_neg (by decide +kernel)]; exact ⟨rfl, rfl⟩))
    (fun os started H enc _ => lifted os started H enc)

end Go.Proofs.Ytpapaadclkdbkaa.heapPuts
namespace Go.Proofs.Ytpapaadclkdbkaa
/-- The statement. -/
theorem heapPuts_holds : Rows.HeapPutsSaid := heapPuts.over
#print axioms heapPuts_holds
end Go.Proofs.Ytpapaadclkdbkaa
