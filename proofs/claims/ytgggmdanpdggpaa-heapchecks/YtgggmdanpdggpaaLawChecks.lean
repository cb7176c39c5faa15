/- HeapChecks holds for every heap that can come in, with no condition: the program tells whether a heap may be, or what is wrong first, and which things it has. -/
import Derived.Test.YtgggmdanpdggpaaFrame
import Derived.Test.YtgggmdanpdggpaaCheck
import Derived.Test.YtgggmdanpdggpaaRefLoop
namespace Go.Proofs.Ytgggmdanpdggpaa.heapChecks
open Go.ChangeShapes Go.WideShapes Go.ChangeAt Go.RowKit

theorem heap_below {W : List Int} {ad : Option Addr} {w w' : World} (hr : 2 ≤ W.length → ∃ b off, ad = some ⟨b, off, none⟩ ∧ Row w b off W) (hb : Below w.heap.size w w') : 2 ≤ W.length → ∃ b off, ad = some ⟨b, off, none⟩ ∧ Row w' b off W :=
  fun h => let ⟨b, off, e, r⟩ := hr h; ⟨b, off, e, r.same hb⟩

theorem keep {w w' : World} {o : Obj} (hb : Below (w.alloc o).heap.size (w.alloc o) w') {a : Addr} {v : Value} (h : w.cell? a = some v) : w'.cell? a = some v := by
  have hlt := World.block_lt_of_cell? w a h
  rw [(below_call hb).cell hlt]; exact h
theorem grew {w w' : World} {o : Obj} (hb : Below (w.alloc o).heap.size (w.alloc o) w') : w.heap.size < w'.heap.size := by
  have := hb.size; simp at this; omega

theorem big (ad : Option Addr) (n cap : Nat) (w : World) (hm : n ≤ maxLen) (h : 5000 < n) :
    Calls Try.prog 5 #[.agg #[.slice ad n cap]] w fun e w' => e = .returned (.bool true) ∧ Below w.heap.size w w' := by
  unfold maxLen at hm
  go_enter Try.func5, Try.ntmps5
  go_wp2
  go_ret
  exact ⟨rfl, (Below.refl _ _).alloc (Nat.le_refl _) _⟩

set_option maxHeartbeats 2000000 in
theorem walk_no (W : List Int) (ad : Option Addr) (cap : Nat) (w : World) (hm : W.length ≤ maxLen) (hl : W.length ≤ 5000) (hr : 2 ≤ W.length → ∃ b off, ad = some ⟨b, off, none⟩ ∧ Row w b off W) (h : (checkOf W).1 ≠ 0) :
    Calls Try.prog 5 #[.agg #[.slice ad W.length cap]] w fun e w' => e = .returned (.bool true) ∧ Below w.heap.size w w' := by
  have HR : Hid (2 ≤ W.length → ∃ b off, ad = some ⟨b, off, none⟩ ∧ Row w b off W) := hr
  have h21 : Hid (∀ w0, (2 ≤ W.length → ∃ b off, ad = some ⟨b, off, none⟩ ∧ Row w0 b off W) → Calls Try.prog 21 #[heapV ad W.length cap] w0 fun e w' => e = .returned (.agg #[.int .i64 (checkOf W).1, .int .i64 (checkOf W).2]) ∧ Below w0.heap.size w0 w') := fun w0 h0 => check_any W ad cap w0 hm h0
  have h22 : Hid (∀ w0, (2 ≤ W.length → ∃ b off, ad = some ⟨b, off, none⟩ ∧ Row w0 b off W) → Calls Try.prog 22 #[heapV ad W.length cap] w0 fun e w' => e = .returned (.agg #[.int .i64 (checkOf W).1, .int .i64 (checkOf W).2]) ∧ Below w0.heap.size w0 w') := fun w0 h0 => rcheck_any W ad cap w0 hm h0
  have h23 : Hid (∀ w0, (2 ≤ W.length → ∃ b off, ad = some ⟨b, off, none⟩ ∧ Row w0 b off W) → Calls Try.prog 23 #[heapV ad W.length cap] w0 fun e w' => e = .returned (.tuple #[.slice none 0 0, .int .i64 7]) ∧ Below w0.heap.size w0 w') := fun w0 h0 => hthings_no W ad cap w0 hm h0 h
  generalize checkOf W = F at *
  have hb : (F.1 != 0) = true := by simpa using h
  clear h hr
  go_enter Try.func5, Try.ntmps5
  go_wp2_with (first | (go_at_call 21; refine (h21.out _ (reads1 HR.out)).mono ?_; rintro e w1 ⟨rfl, hb1⟩; have k1 := box_one hb1; have z1 := grew hb1) | (go_at_call 22; refine (h22.out _ (reads1 (heap_below (reads1 HR.out) hb1))).mono ?_; rintro e w2 ⟨rfl, hb2⟩; have k2 := keep hb2 k1; obtain ⟨f20, f21⟩ := box_cells hb2; have z2 := grew hb2; have z12 : w.heap.size < w2.heap.size := (by omega)) | (go_at_call 23; refine (h23.out _ (reads1 (heap_below (reads1 (heap_below (reads1 HR.out) hb1)) hb2))).mono ?_; rintro e w3 ⟨rfl, hb3⟩; have k3 := keep hb3 k2; have f30 := keep hb3 f20; have f31 := keep hb3 f21; obtain ⟨g30, g31⟩ := box_cells hb3))
  go_ret
  exact ⟨rfl, (below_call hb1).trans (((below_call hb2).trans ((below_call hb3).mono (below_call hb2).size)).mono (below_call hb1).size)⟩

set_option maxHeartbeats 2000000 in
theorem walk_yes (W : List Int) (ad : Option Addr) (cap : Nat) (w : World) (hm : W.length ≤ maxLen) (hl : W.length ≤ 5000) (hr : 2 ≤ W.length → ∃ b off, ad = some ⟨b, off, none⟩ ∧ Row w b off W) (h : (checkOf W).1 = 0) :
    Calls Try.prog 5 #[.agg #[.slice ad W.length cap]] w fun e w' => e = .returned (.bool true) ∧ Below w.heap.size w w' := by
  obtain ⟨hf, hu⟩ := check_ok h
  obtain ⟨h2, hl2, _⟩ := front_out hf
  obtain ⟨b, off, rfl, hrow⟩ := hr h2
  have HR : Hid (2 ≤ W.length → ∃ b' off', some (⟨b, off, none⟩ : Addr) = some ⟨b', off', none⟩ ∧ Row w b' off' W) := hr
  have h21 : Hid (∀ w0, (2 ≤ W.length → ∃ b' off', some (⟨b, off, none⟩ : Addr) = some ⟨b', off', none⟩ ∧ Row w0 b' off' W) → Calls Try.prog 21 #[heapV (some ⟨b, off, none⟩) W.length cap] w0 fun e w' => e = .returned (.agg #[.int .i64 0, .int .i64 0]) ∧ Below w0.heap.size w0 w') := fun w0 h0 => by have := check_any W (some ⟨b, off, none⟩) cap w0 hm h0; rw [see_fst h] at this; exact this
  have h22 : Hid (∀ w0, (2 ≤ W.length → ∃ b' off', some (⟨b, off, none⟩ : Addr) = some ⟨b', off', none⟩ ∧ Row w0 b' off' W) → Calls Try.prog 22 #[heapV (some ⟨b, off, none⟩) W.length cap] w0 fun e w' => e = .returned (.agg #[.int .i64 0, .int .i64 0]) ∧ Below w0.heap.size w0 w') := fun w0 h0 => by have := rcheck_any W (some ⟨b, off, none⟩) cap w0 hm h0; rw [see_fst h] at this; exact this
  have h23 : Hid (∀ w0, (2 ≤ W.length → ∃ b' off', some (⟨b, off, none⟩ : Addr) = some ⟨b', off', none⟩ ∧ Row w0 b' off' W) → Calls Try.prog 23 #[heapV (some ⟨b, off, none⟩) W.length cap] w0 fun e w' => ThingsAns w0.heap.size (refs (places W 2)) e w' ∧ Below w0.heap.size w0 w') := fun w0 h0 => hthings_yes W (some ⟨b, off, none⟩) cap w0 h0 h
  have hpl : (refs (places W 2)).length ≤ 1000000 := by
    have h1 := places_length (W := W) (W.length - 2) 2 (Nat.le_refl _)
    rw [refs_length]; omega
  clear h hr hf
  go_enter Try.func5, Try.ntmps5
  go_wp2_with (first | (go_at_call 21; refine (h21.out _ (reads1 HR.out)).mono ?_; rintro e w1 ⟨rfl, hb1⟩; have k1 := box_one hb1; have z1 := grew hb1) | (go_at_call 22; refine (h22.out _ (reads1 (heap_below (reads1 HR.out) hb1))).mono ?_; rintro e w2 ⟨rfl, hb2⟩; have k2 := keep hb2 k1; obtain ⟨f20, f21⟩ := box_cells hb2; have z2 := grew hb2; have z12 : w.heap.size < w2.heap.size := (by omega)) | (go_at_call 23; refine (h23.out _ (reads1 (heap_below (reads1 (heap_below (reads1 HR.out) hb1)) hb2))).mono ?_; rintro e w3 ⟨⟨ad3, c3, rfl, hown3⟩, hb3⟩; have k3 := keep hb3 k2; have f30 := keep hb3 f20; have f31 := keep hb3 f21; obtain ⟨g30, g31⟩ := box_cells hb3; have hrd3 := Reads.of_own hown3; have hr3 := (((hrow.alloc _).same hb1).alloc _ |>.same hb2).alloc _ |>.same hb3) | (go_at_call 24; refine (rthings_any W b off cap _ hr3 hu hl2).mono ?_; rintro e w4 ⟨⟨ad4, c4, rfl, hown4⟩, hb4⟩; have hrd4 := Reads.of_own hown4; have hrd34 := hrd3.below hb4) | (go_at_call 25; refine (ints_any _ _ _ _ _ hrd34 hrd4 hpl).mono ?_; rintro e w5 ⟨rfl, m, rfl⟩))
  go_ret
  refine ⟨ret_bool (by simp), ?_⟩
  exact below_drewN ((below_call hb1).trans (((below_call hb2).trans (((below_call hb3).trans (hb4.mono (below_call hb3).size)).mono (below_call hb2).size)).mono (below_call hb1).size)) m

theorem walk (W : List Int) (ad : Option Addr) (cap : Nat) (w : World) (hm : W.length ≤ maxLen) (hr : 2 ≤ W.length → ∃ b off, ad = some ⟨b, off, none⟩ ∧ Row w b off W) :
    Calls Try.prog 5 #[.agg #[.slice ad W.length cap]] w fun e w' => e = .returned (.bool true) ∧ Below w.heap.size w w' := by
  by_cases hl : W.length ≤ 5000
  · by_cases h : (checkOf W).1 = 0
    · exact walk_yes W ad cap w hm hl hr h
    · exact walk_no W ad cap w hm hl hr h
  · exact big ad W.length cap w hm (by omega)

set_option maxRecDepth 100000 in
theorem lifted (os : Os) (started : os.Started) (H : Type) (enc : TypeId × Value → H) :
    ReturnsInHanded {} Try.checked os 5 .any (Rows.heapChecksSpec.pre6 enc Try.prog Try.f5 Rows.heapChecksRow.domain false) (Rows.heapChecksSpec.post enc Try.prog Try.f5 false true false false) := by
  refine returnsInHanded_of_change (C := Try.checked) own started (by kernel_rfl) Try.func5
    (ChangeSpec.witness6 (enc := enc) (C := Try.checked) false ⟨#[], #[.agg #[.slice none 0 0]], []⟩ 8 (by kernel_rfl) (by kernel_rfl) (by kernel_rfl) (by kernel_rfl)) ?_
  intro W base args ds gs before hval0 hW hcnd _
  have hval : ∀ (j : Nat) t v, Try.f5.params[j]? = some t → args[j]? = some v → Value.okWide Try.prog W .any base t v := hval0
  have hW' := hW
  obtain ⟨p, q, hA0, hV, rfl, hfz, hnd⟩ := hW
  have hA : DataW.TrodAll enc Try.prog W 0 (fun _ => true) true Try.f5.params.toList args.toList ds p := hA0
  rw [Try.params5] at hA hval
  obtain ⟨v0, vs0, d0, ds0, p0, q0, hargs, rfl, rfl, h0, r0⟩ := trodAll_cons hA
  obtain ⟨rfl, rfl, rfl⟩ := trodAll_nil r0
  obtain rfl : args = #[v0] := by cases args; simp_all
  obtain ⟨rfl, rfl⟩ := trodVars_none hV
  have lt0 : ∀ x ∈ p0, x.block < W.heap.size := by obtain ⟨m, hm⟩ := h0; exact DataW.trod_lt m _ _ _ hm
  obtain ⟨ad, cap, Ws, rfl, hm, hr⟩ := open_heap (hval 0 32 v0 rfl rfl) h0
  clear hA0 hval0
  refine (walk Ws ad cap W hm hr).mono fun e W' ⟨he, bel⟩ => ?_
  subst he
  exact ⟨_, rfl, _, _, _, [], _, [], hW', trodAll_mk1 (shut_bool lt4 _), (trodAll_cons_mk (Below.trod laidOut (by kernel_rfl) (of_decide_eq_true (by kernel_rfl)) h0 bel lt0) trodAll_mk0), rfl, bel.frame _, fun h => by cases h⟩

theorem over : Rows.heapChecksRow.holds Try.pinned (OpenSpec.ofChange Rows.heapChecksSpec) :=
  OpenClaim.holds_of_wide 5 Try.f5 rfl rfl rfl rfl rfl rfl rfl ⟨rfl, rfl, rfl, rfl, rfl⟩ rfl rfl rfl rfl rfl (by kernel_rfl) Try.func5 (by kernel_rfl)
    (of_decide_eq_true (by kernel_rfl)) (by unfold Func.isWrapper; first | (rw [if_pos (by decide +kernel)]; kernel_rfl) | (rw [if_neg (by decide +kernel)]; exact ⟨rfl, rfl⟩))
    (fun os started H enc _ => lifted os started H enc)

end Go.Proofs.Ytgggmdanpdggpaa.heapChecks
namespace Go.Proofs.Ytgggmdanpdggpaa
/-- The statement. -/
theorem heapChecks_holds : Rows.HeapChecksSaid := heapChecks.over
#print axioms heapChecks_holds
end Go.Proofs.Ytgggmdanpdggpaa
