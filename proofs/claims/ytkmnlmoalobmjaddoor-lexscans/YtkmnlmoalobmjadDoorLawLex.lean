/- LexScans holds for every text that can come in, with no condition: the program tells its tokens, or what is wrong first. What the library's variables hold at the start is tied to the program's text. -/
import Derived.Test.YtkmnlmoalobmjadDoorRLex
import Derived.Test.YtkmnlmoalobmjadDoorTie
import Derived.Test.YtkmnlmoalobmjadDoorCards
import Derived.ProofKit
import Derived.LaidMore
import Derived.OpenShut
import Derived.Stop.Joined
import Derived.Stop.LaidErr
import Derived.SevenTiedAt
import Derived.ChangeMaps5
namespace Go.Proofs.YtkmnlmoalobmjadDoor.lexScans
open Go.ChangeShapes Go.WideShapes Go.ChangeAt Go.RowKit

/-- Tokens that are owned, as a slice and as cells. -/
theorem own_slice {w : World} {B : Nat} {v : Value} {l : List Tok} (h : w.ownsRow B 29 3 v l.length (toksV l)) : ∃ ad c, v = .slice ad l.length c ∧ (0 < l.length → ∃ g, ad = some ⟨g, 0, none⟩ ∧ g < w.heap.size ∧ ∀ k, k < l.length → w.cell? ⟨g, k * 3, none⟩ = some (.int .i64 (tokAt l k).1) ∧ w.cell? ⟨g, k * 3 + 1, none⟩ = some (.string (strOfNums (tokAt l k).2.1)) ∧ w.cell? ⟨g, k * 3 + 2, none⟩ = some (.int .i64 ((tokAt l k).2.2 : Int))) := by
  rcases h.2 with ⟨rfl, h0⟩ | ⟨g, cap, cur, rfl, hg, r⟩
  · exact ⟨none, 0, by rw [h0], fun h => by omega⟩
  · refine ⟨_, _, rfl, fun _ => ⟨g, rfl, (h.lt g rfl).2, fun k hk => ?_⟩⟩
    obtain ⟨p1, p2, p3⟩ := toksV_at l k hk
    exact ⟨by rw [h.cellAt (k * 3) (by omega)]; exact p1, by rw [h.cellAt (k * 3 + 1) (by omega)]; exact p2, by rw [h.cellAt (k * 3 + 2) (by omega)]; exact p3⟩

theorem box2 {w1 w2 : World} {x y : Value} {T : TypeId} (hb : Below (w1.alloc (.cells #[x, y] T)).heap.size (w1.alloc (.cells #[x, y] T)) w2) : w2.cell? ⟨w1.heap.size, 0, none⟩ = some x ∧ w2.cell? ⟨w1.heap.size, 1, none⟩ = some y ∧ w1.heap.size < w2.heap.size := by
  have hs := hb.size
  exact ⟨by rw [hb.cell (p := ⟨w1.heap.size, 0, none⟩) (by simp)]; simp, by rw [hb.cell (p := ⟨w1.heap.size, 1, none⟩) (by simp)]; simp, by simp at hs; omega⟩

set_option maxHeartbeats 4000000 in
theorem walk (t : ByteArray) (w : World) (he : Errs w) (hm : t.size ≤ maxLen) :
    Calls Tryd.prog 3 #[.string t] w fun e w' => e = .returned (.bool true) ∧ Below w.heap.size w w' := by
  have h1 := lscan_any t
  have h2 := rscan_any t
  unfold ScanAns at h1 h2
  cases hs : scanP (nums t) with
  | error x =>
    obtain ⟨c, a⟩ := x
    rw [hs] at h1 h2
    simp only at h1 h2
    have h1' := h1 w he hm
    have h2' := fun w => h2 w hm
    clear h1 h2 hs
    go_enter Tryd.func3, Tryd.ntmps3
    go_wp2_with (first | (go_at_call 4; refine h1'.mono ?_; rintro e w1 ⟨rfl, hb1⟩) | (go_at_call 5; refine (h2' _).mono ?_; rintro e w2 ⟨rfl, hb2⟩; obtain ⟨k0, k1, hz⟩ := box2 hb2))
    have hbW : Below w.heap.size w (w2.alloc (.cells #[.int .i64 c, .int .i64 a] 25)) := ((hb1.alloc hb1.size _).trans (hb2.mono (by have := hb1.size; simp; omega))).alloc (by have := hb1.size; omega) _
    generalize w2.alloc (.cells #[.int .i64 c, .int .i64 a] 25) = W0 at *
    go_loopw [7] (fun s7 wr => s7 = .int .i64 0 ∧ wr = W0) (fun _ _ => 0)
    case atStart => exact ⟨rfl, rfl⟩
    case round =>
      obtain ⟨rfl, rfl⟩ := hrel
      go_wp2_with fail
      go_ret
      exact ⟨rfl, hbW⟩
  | ok l =>
    have hfew := scan_few hs
    rw [nums_length] at hfew
    rw [hs] at h1 h2
    simp only at h1 h2
    have h1' := h1 w he hm
    have h2' := fun w => h2 w hm
    clear h1 h2 hs
    have hl : l.length ≤ 4000 := by omega
    go_enter Tryd.func3, Tryd.ntmps3
    go_wp2_with (first | (go_at_call 4; refine h1'.mono ?_; rintro e w1 ⟨⟨v1, rfl, O1⟩, hb1⟩; obtain ⟨a1, c1, e1, _⟩ := own_slice O1; subst e1) | (go_at_call 5; refine (h2' _).mono ?_; rintro e w2 ⟨⟨v2, rfl, O2⟩, hb2⟩; obtain ⟨a2, c2, e2, _⟩ := own_slice O2; subst e2; obtain ⟨k0, k1, hz⟩ := box2 hb2; have O1' := own_keep (O1.alloc _) hb2))
    have hbW : Below w.heap.size w (w2.alloc (.cells #[.int .i64 0, .int .i64 0] 25)) := ((hb1.alloc hb1.size _).trans (hb2.mono (by have := hb1.size; simp; omega))).alloc (by have := hb1.size; omega) _
    have P1 := O1'.alloc (.cells #[.int .i64 0, .int .i64 0] 25)
    have P2 := O2.alloc (.cells #[.int .i64 0, .int .i64 0] 25)
    generalize w2.alloc (.cells #[.int .i64 0, .int .i64 0] 25) = W0 at *
    have HC1 : Hid (0 < l.length → ∃ g, a1 = some ⟨g, 0, none⟩ ∧ g < W0.heap.size ∧ ∀ k, k < l.length → W0.cell? ⟨g, k * 3, none⟩ = some (.int .i64 (tokAt l k).1) ∧ W0.cell? ⟨g, k * 3 + 1, none⟩ = some (.string (strOfNums (tokAt l k).2.1)) ∧ W0.cell? ⟨g, k * 3 + 2, none⟩ = some (.int .i64 ((tokAt l k).2.2 : Int))) := by
      obtain ⟨ad, cc, e, h⟩ := own_slice P1
      simp only [Value.slice.injEq] at e
      rw [e.1]; exact h
    have HC2 : Hid (0 < l.length → ∃ g, a2 = some ⟨g, 0, none⟩ ∧ g < W0.heap.size ∧ ∀ k, k < l.length → W0.cell? ⟨g, k * 3, none⟩ = some (.int .i64 (tokAt l k).1) ∧ W0.cell? ⟨g, k * 3 + 1, none⟩ = some (.string (strOfNums (tokAt l k).2.1)) ∧ W0.cell? ⟨g, k * 3 + 2, none⟩ = some (.int .i64 ((tokAt l k).2.2 : Int))) := by
      obtain ⟨ad, cc, e, h⟩ := own_slice P2
      simp only [Value.slice.injEq] at e
      rw [e.1]; exact h
    clear O1 O2 O1' P1 P2 hb1 hb2 k0 k1 hz
    go_loopw [7] (fun s7 wr => ∃ (i : Nat), s7 = .int .i64 i ∧ i ≤ l.length ∧ Below W0.heap.size W0 wr) (fun s7 _ => l.length - (intOf s7).toNat)
    case atStart => exact ⟨0, rfl, Nat.zero_le _, Below.refl _ _⟩
    case round =>
      obtain ⟨i, rfl, hi, hB⟩ := hrel
      by_cases hlt : i < l.length
      · obtain ⟨g1, rfl, hg1, hc1⟩ := HC1.out (by omega)
        obtain ⟨g2, rfl, hg2, hc2⟩ := HC2.out (by omega)
        obtain ⟨x1, x2, x3⟩ := hc1 i hlt
        obtain ⟨y1, y2, y3⟩ := hc2 i hlt
        rw [← hB.cell (p := ⟨g1, i * 3, none⟩) hg1] at x1
        rw [← hB.cell (p := ⟨g1, i * 3 + 1, none⟩) hg1] at x2
        rw [← hB.cell (p := ⟨g1, i * 3 + 2, none⟩) hg1] at x3
        rw [← hB.cell (p := ⟨g2, i * 3, none⟩) hg2] at y1
        rw [← hB.cell (p := ⟨g2, i * 3 + 1, none⟩) hg2] at y2
        rw [← hB.cell (p := ⟨g2, i * 3 + 2, none⟩) hg2] at y3
        have hil : (i : Int) < (l.length : Int) := by omega
        have hw1 := wrap_id (x := (i : Int) + 1) (by omega) (by omega)
        clear hc1 hc2 HC1 HC2
        generalize tokAt l i = tk at *
        obtain ⟨kd, tx, at'⟩ := tk
        simp only at x1 x2 x3 y1 y2 y3
        generalize strOfNums tx = sx at *
        go_wp2_with fail
        go_region
        go_wp2_with fail
        exact ⟨⟨i + 1, by first | rfl | simp, by omega, hB.drew⟩, by simp [intOf]; omega⟩
      · have e : i = l.length := by omega
        subst e
        go_wp2_with fail
        go_ret
        exact ⟨rfl, hbW.trans (hB.mono hbW.size)⟩

/-! What the row lists, and what it gives. -/
theorem own : ownKnob Tryd.prog.godebug = none := by kernel_rfl
theorem lt4 : Tryd.prog.underlying 4 = some .bool := by kernel_rfl
theorem gRange : Tryd.prog.globalNamed "strconv.ErrRange" = some 2 := by kernel_rfl
theorem gRangeType : (Tryd.prog.globals[2]?).map (·.type) = some 45 := by kernel_rfl
theorem star : "*" ++ "errors.errorString" = "*errors.errorString" := by decide
theorem rowErr (u : TypeId) (h : Tryd.prog.typeName? 3 u = some "*errors.errorString") : u = 70 :=
  typeName_ptr_named (nm := "errors.errorString") (by rw [star]; kernel_rfl) (by kernel_rfl) (by decide) u (by rw [star]; exact h)
theorem door_met (os : Os) (args : Array Value) : laidMetH Tryd.prog Rows.lexScansRow.laid ((World.doorLaid Tryd.prog 62 os).forCall (fun _ _ => 0) ⟨#[], args, []⟩).memory :=
  laidMetH_of_parts3 (fuel := 8) (laidMet_of_run' 8 (by kernel_rfl) (by kernel_rfl)) (by kernel_rfl) (by kernel_rfl)
theorem of_laid {W : World} (h : laidMetH Tryd.prog Rows.lexScansRow.laid W) : Errs W := by
  rw [MakeChecks.laidMetH_plain _ _ _ (by kernel_rfl)] at h
  have h3 := h.tail.tail.tail
  obtain ⟨a, s, hv, -, -, -⟩ := laid_sentinel h3 gRange gRangeType Tryd.underlying45 rowErr Tryd.underlying70 Tryd.underlying72 rfl rfl Tryd.underlying9 (by kernel_rfl) (by kernel_rfl)
  have hc := World.var?_cell gRange hv 0
  simp at hc
  exact ⟨Lib.lt_of_cell hc, _, _, hc⟩

set_option maxRecDepth 100000 in
theorem lifted (os : Os) (started : os.Started) (H : Type) (enc : TypeId × Value → H) :
    ReturnsInHanded {} Tryd.checked os 3 .any (fun w args => (Rows.lexScansSpec.pre enc Tryd.prog Tryd.f3 Rows.lexScansRow.domain false w args ∧ laidMetH Tryd.prog Rows.lexScansRow.laid w) ∧ sizedMet enc Tryd.prog Tryd.f3 (OpenSpec.ofChange Rows.lexScansSpec) false w args)
      (Rows.lexScansSpec.post enc Tryd.prog Tryd.f3 false true false false) := by
  refine returnsInHanded_of_change_and (C := Tryd.checked) (X := fun w _ => laidMetH Tryd.prog Rows.lexScansRow.laid w) (fun _ _ _ hh h => h.of_heap hh) own started (by kernel_rfl) Tryd.func3
    (ChangeSpec.witness_shaped (enc := enc) (C := Tryd.checked) (os := os) (X := fun w _ => laidMetH Tryd.prog Rows.lexScansRow.laid w) false (World.doorLaid Tryd.prog 62 os) #[.string ⟨#[]⟩] 8 rfl (World.shaped_of_RefB (by kernel_rfl) (by kernel_rfl)) (by kernel_rfl) (by kernel_rfl) (by kernel_rfl) (door_met os _)) ?_
  intro W base args ds gs before hval0 hW _ _ hL _
  have hval : ∀ (j : Nat) t v, Tryd.f3.params[j]? = some t → args[j]? = some v → Value.okWide Tryd.prog W .any base t v := hval0
  have hW' := hW
  obtain ⟨p, q, hA0, hV, rfl, hfz, hnd⟩ := hW
  have hA : DataW.TrodAll enc Tryd.prog W 0 (fun _ => true) true Tryd.f3.params.toList args.toList ds p := hA0
  rw [Tryd.params3] at hA hval
  obtain ⟨v0, d0, rfl, rfl, h0⟩ := trodAll_one hA
  obtain ⟨rfl, rfl⟩ := trodVars_none hV
  obtain ⟨s, rfl, rfl, rfl, hs⟩ := Go.ChangeMaps.open_string tyStr (hval 0 9 v0 rfl rfl) h0
  clear hA0 hval0
  simp only [List.append_nil] at hW'
  refine (walk s W (of_laid hL) hs).mono fun e W' ⟨he, bel⟩ => ?_
  subst he
  exact ⟨_, rfl, _, _, _, [], [], [], hW', trodAll_mk1 (shut_bool lt4 _), trodAll_mk1 (Go.ChangeMaps.shut_string tyStr hs), rfl, bel.frame _, fun h => by cases h⟩

theorem over : Rows.LexScansSaid :=
  OpenClaim.holds_of_wide 3 Tryd.f3 rfl rfl rfl rfl rfl rfl rfl ⟨rfl, rfl, rfl, rfl, rfl⟩ rfl rfl rfl rfl rfl (by kernel_rfl) Tryd.func3 (by kernel_rfl)
    (of_decide_eq_true (by kernel_rfl)) (by unfold Func.isWrapper; first | (rw [if_pos (by decide +kernel)]; kernel_rfl) | (rw [if_neg (by decide +kernel)]; exact ⟨rfl, rfl⟩))
    (fun os started H enc _ => lifted os started H enc)
theorem card : Rows.LexScansCardSaid :=
  Claim7.holds_tied_plain_at .later [] [.data, .data, .data, .sentinel, .sentinel] true _ true
    over (fun _ h => by cases h) (by kernel_rfl) (fun _ h => by cases h) lexScans_row_tie rfl ⟨rfl, rfl⟩ (by kernel_rfl) rfl
    (fun f fn hf hfn => by
      obtain rfl : f = 3 := Option.some.inj ((show Tryd.prog.funcNamed "gesso/gessolaw.LexScans" = some 3 by kernel_rfl).symm.trans hf) |>.symm
      obtain rfl : fn = Tryd.f3 := (Option.some.inj (Tryd.func3.symm.trans hfn)).symm
      exact ⟨by kernel_rfl, fun j t ht => by
        rw [Tryd.params3] at ht
        have hm : t ∈ [9] := by simpa using Array.mem_of_getElem? ht
        have hall : ([9].all fun u => !Tryd.prog.wantsStandIn u) = true := by kernel_rfl
        exact (show Tryd.prog.wantsStandIn t = false by simpa using List.all_eq_true.1 hall t hm)⟩)
    (by kernel_rfl)
end Go.Proofs.YtkmnlmoalobmjadDoor.lexScans
namespace Go.Proofs.YtkmnlmoalobmjadDoor
/-- The statement. -/
theorem lexScans_holds : Rows.LexScansCardSaid := lexScans.card
#print axioms lexScans_holds
end Go.Proofs.YtkmnlmoalobmjadDoor
