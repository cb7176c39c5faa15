/- HeapKeeps holds for every heap and all numbers that can come in, with no condition: what is put into a slot is there and nothing else changes, and a thing that is made leaves the others as they are. -/
import Derived.Test.YtpapaadclkdbkaaFrame
import Derived.Test.YtpapaadclkdbkaaKeepCore
namespace Go.Proofs.Ytpapaadclkdbkaa.heapKeeps
open Go.ChangeShapes Go.WideShapes Go.ChangeAt Go.RowKit Go.Joins Go.Deep

theorem row_own {w : World} {g n c : Nat} {W : List Int} (hn : n = W.length) (h : w.ownsRow 0 3 1 (sl g n c) n (vals W)) (hwf : ∀ i, (Lit.int .i64 (wd W i)).wf = true) : Row w g 0 W ∧ n ≤ c ∧ c ≤ maxLen := by
  subst hn
  exact ⟨⟨own_lt h, fun k hk => by rw [Nat.zero_add]; exact own_cell h hk, hwf⟩, own_cap h⟩
theorem put_end {n : Nat} {W : List Int} {e : Ending} {w : World} (hn : n = W.length) (hwf : ∀ i, (Lit.int .i64 (wd W i)).wf = true) (h : PutAns W e w) : PutEnd n W e w := by
  obtain ⟨g, c, he, hown⟩ := h
  rw [← hn] at he hown
  exact ⟨g, c, he, row_own hn hown hwf⟩
theorem new_end {n : Nat} {W : List Int} {o : Int} {e : Ending} {w : World} (hn : n = W.length) (hwf : ∀ i, (Lit.int .i64 (wd W i)).wf = true) (h : NewAns W o e w) : NewEnd n W o e w := by
  obtain ⟨g, c, he, hown⟩ := h
  rw [← hn] at he hown
  exact ⟨g, c, he, row_own hn hown hwf⟩
theorem look_end {W : List Int} {p B : Nat} {e : Ending} {w : World} (hwf : ∀ i, (Lit.int .i64 (wd W i)).wf = true) (h0 : 0 < (slotsOf W p).length) (hf : p + 3 + slotsAt W p ≤ W.length) (h : LookAns W p B e w) : LookEnd (wd W p) (wd W (p + 1)) (formAt W p) (slotsOf W p) e w := by
  obtain ⟨v, he, ad, c, rfl, hs⟩ := h
  obtain ⟨g, rfl, _, hown⟩ := hs h0
  refine ⟨g, 0, c, he, (row_own rfl hown fun i => ?_).1⟩
  rw [slots_length hf] at h0
  by_cases hi : i < slotsAt W p
  · rw [slots_at hi]; exact hwf _
  · have : wd (slotsOf W p) i = 0 := by
      unfold wd
      rw [List.getD_eq_getElem?_getD, List.getElem?_eq_none (by rw [slots_length hf]; omega)]; rfl
    rw [this]; decide

theorem walk_yes (W : List Int) (ad : Option Addr) (cap p k : Nat) (what : Int) (w : World) (hr : From ad W w) (hwh : (Lit.int .i64 what).wf = true) (h : (checkOf W).1 = 0) (ho : thingB W (2 * (p : Int)) = true) (hmem : p ∈ places W 2) (hk : k < slotsAt W p) (hst : standB W (formAt W p) what = true) :
    Calls Try.prog 5 #[.agg #[.slice ad W.length cap], .int .i64 (2 * (p : Int)), .int .i64 k, .int .i64 what] w fun e w' => e = .returned (.bool true) ∧ Below w.heap.size w w' := by
  obtain ⟨c1, c2, c3⟩ := check_fine h
  obtain ⟨f1, f2, f3, f4, f5⟩ := front_out c1
  have hp2 := (place_fit c2 hmem).1
  have hfo := fits_out (place_fit c2 hmem).2.2.1
  obtain ⟨hpl, hch⟩ := put_keeps h hmem hk hst
  have hlen : (W.set (p + 3 + k) what).length = W.length := List.length_set
  have hwfW : ∀ i, (Lit.int .i64 (wd W i)).wf = true := by obtain ⟨_, _, _, hrow⟩ := hr f1; exact hrow.wf
  have hwf : ∀ i, (Lit.int .i64 (wd (W.set (p + 3 + k) what) i)).wf = true := fun i => by
    by_cases e : p + 3 + k = i
    · rw [← e, wd_set_same (by omega)]; exact hwh
    · rw [wd_set_other e]; exact hwfW i
  have hput : ∀ w, From ad W w → Calls Try.prog 14 #[heapV ad W.length cap, .int .i64 (2 * (p : Int)), .int .i64 k, .int .i64 what] w fun e w' => PutEnd W.length (W.set (p + 3 + k) what) e w' ∧ Below w.heap.size w w' :=
    fun w hr => (put_good W ad cap p k what w hr h ho hmem hk hst).mono fun e w' hp => ⟨put_end hlen.symm hwf hp.1, hp.2⟩
  have hsame : ∀ i, i ≠ p + 3 + k → wd (W.set (p + 3 + k) what) i = wd W i := fun i hi => wd_set_other (by omega)
  have hs2 : wd (W.set (p + 3 + k) what) (p + 2) = wd W (p + 2) := hsame _ (by omega)
  have hsl : slotsAt (W.set (p + 3 + k) what) p = slotsAt W p := slots_same hs2
  have hat : wd (W.set (p + 3 + k) what) (p + 3 + k) = what := wd_set_same (by omega)
  generalize W.set (p + 3 + k) what = W' at *
  have hmem' : p ∈ places W' 2 := by rw [hpl]; exact hmem
  have ho' : thingB W' (2 * (p : Int)) = true := by unfold thingB beginB at ho ⊢; rw [hpl]; exact ho
  have hfit' : p + 3 + slotsAt W' p ≤ W'.length := by rw [hsl, hlen]; exact hfo.2.2.2.2
  have hx : (slotsOf W' p).length = slotsAt W p := by rw [slots_length hfit', hsl]
  have hlook : ∀ w b c, Row w b 0 W' → Calls Try.prog 13 #[heapV (some ⟨b, 0, none⟩) W.length c, .int .i64 (2 * (p : Int))] w fun e w' => LookEnd (wd W' p) (wd W' (p + 1)) (formAt W' p) (slotsOf W' p) e w' ∧ Below w.heap.size w w' := fun w b c hrow => by
    rw [← hlen]
    exact (look_yes W' (some ⟨b, 0, none⟩) c p w (fun _ => ⟨b, 0, rfl, hrow⟩) hch ho' hmem').mono fun e w' hp => ⟨look_end hwf (by omega) hfit' hp.1, hp.2⟩
  have hnil : nilB W' (2 * (p : Int)) = true := by unfold nilB; rw [ho']; simp
  refine core W W' (newWords W' (2 * (p : Int)) 2 (2 : Nat)) ad cap p k what (wd W' p) (wd W' (p + 1)) (formAt W' p) (wd W' 1) (slotsOf W' p) w (by omega) f2 hlen hsame hr hput hlook (by omega) (by rw [slots_at (by omega)]; exact hat) ?_
  obtain ⟨c1', _, _⟩ := check_fine hch
  obtain ⟨_, _, _, f4', f5'⟩ := front_out c1'
  by_cases hfull : 2000 < (W'.length : Int) + 3 + 2 ∨ 10000 < wd W' 1
  · refine Or.inl fun w b c hrow => ?_
    rw [← hlen]
    exact new_full W' (some ⟨b, 0, none⟩) c (2 * (p : Int)) 2 2 w (fun _ => ⟨b, 0, rfl, hrow⟩) hch hnil (by decide) (by decide) hfull
  · have hM := one_moreN W' (2 * (p : Int)) 2 2 (by omega)
    have hMl := hM.length
    have hMmay := hM.may hch hnil (by decide) (by decide) (by omega) (by omega)
    obtain ⟨hMp, _, hMs, hMf⟩ := hM.places hch (by decide) (by decide)
    have hMm : W'.length ∈ places (newWords W' (2 * (p : Int)) 2 (2 : Nat)) 2 := by rw [hMp]; simp
    have hMt : thingB (newWords W' (2 * (p : Int)) 2 (2 : Nat)) (2 * (W'.length : Int)) = true := by
      unfold thingB beginB
      have hk3 : kindOf (2 * (W'.length : Int)) = 3 := by
        unfold kindOf
        rw [if_neg (by omega), if_neg (by unfold smallB; simp), if_pos (by omega)]
      rw [hk3, show (2 * (W'.length : Int) / 2).toNat = W'.length by omega, List.contains_iff_mem.2 hMm]
      rfl
    have hpw : (Lit.int .i64 (2 * (p : Int))).wf = true := by have := (place_fit c2 hmem).2.1; go_wf
    have h1w : (Lit.int .i64 (wd W' 1 + 1)).wf = true := by go_wf
    have hMwf : ∀ i, (Lit.int .i64 (wd (newWords W' (2 * (p : Int)) 2 (2 : Nat)) i)).wf = true := fun i => by
      by_cases h1 : i = 1
      · rw [h1, hM.one]; exact h1w
      · by_cases hi : i < W'.length
        · rw [hM.old i hi h1]; exact hwf i
        · by_cases e0 : i = W'.length
          · rw [e0, hM.cls]; exact hpw
          · by_cases e1 : i = W'.length + 1
            · rw [e1, hM.hash]; exact hwf 1
            · by_cases e2 : i = W'.length + 2
              · rw [e2, hM.shape]; decide
              · have : wd (newWords W' (2 * (p : Int)) 2 (2 : Nat)) i = 0 := by
                  by_cases e5 : i < W'.length + 5
                  · obtain ⟨j, rfl⟩ : ∃ j, i = W'.length + 3 + j := ⟨i - (W'.length + 3), by omega⟩
                    exact hM.zero j (by omega)
                  · unfold wd
                    rw [List.getD_eq_getElem?_getD, List.getElem?_eq_none (by omega)]; rfl
                rw [this]; decide
    have hMsl : slotsOf (newWords W' (2 * (p : Int)) 2 (2 : Nat)) W'.length = [0, 0] := by
      have hl2 : (slotsOf (newWords W' (2 * (p : Int)) 2 (2 : Nat)) W'.length).length = 2 := by rw [slots_length (by omega), hMs]
      apply List.ext_getElem hl2
      intro j h1 h2
      have h3 := slots_at (W := newWords W' (2 * (p : Int)) 2 (2 : Nat)) (p := W'.length) (k := j) (by rw [hMs]; omega)
      rw [hM.zero j (by omega)] at h3
      have h4 : wd (slotsOf (newWords W' (2 * (p : Int)) 2 (2 : Nat)) W'.length) j = (slotsOf (newWords W' (2 * (p : Int)) 2 (2 : Nat)) W'.length)[j] := by
        unfold wd; rw [List.getD_eq_getElem?_getD, List.getElem?_eq_getElem h1]; rfl
      rw [← h4, h3]
      match j, h2 with
      | 0, _ => rfl
      | 1, _ => rfl
    refine Or.inr ⟨fun w b c hrow => ?_, fun w b c hrow => ?_, by omega, fun i hi hi2 => hM.old i (by omega) (by omega)⟩
    · rw [← hlen]
      exact (new_good W' (some ⟨b, 0, none⟩) c (2 * (p : Int)) 2 2 w (fun _ => ⟨b, 0, rfl, hrow⟩) hch hnil (by decide) (by decide) (by omega) (by omega)).mono fun e w' hp => ⟨new_end (by omega) hMwf hp.1, hp.2⟩
    · have hl5 : W.length + 5 = (newWords W' (2 * (p : Int)) 2 (2 : Nat)).length := by omega
      rw [hl5, ← hlen]
      refine (look_yes (newWords W' (2 * (p : Int)) 2 (2 : Nat)) (some ⟨b, 0, none⟩) c W'.length w (fun _ => ⟨b, 0, rfl, hrow⟩) hMmay hMt hMm).mono fun e w' hp => ⟨?_, hp.2⟩
      have := look_end hMwf (by rw [hMsl]; decide) (by omega) hp.1
      rw [hMsl, hMf, hM.cls, hM.hash] at this
      exact this

theorem walk (W : List Int) (ad : Option Addr) (cap : Nat) (o at' what : Int) (w : World) (hm : W.length ≤ maxLen) (hwh : (Lit.int .i64 what).wf = true) (hr : From ad W w) :
    Calls Try.prog 5 #[.agg #[.slice ad W.length cap], .int .i64 o, .int .i64 at', .int .i64 what] w fun e w' => e = .returned (.bool true) ∧ Below w.heap.size w w' := by
  by_cases hl : W.length ≤ 5000
  · rcases put_says W ad cap o at' what hm with ⟨er, her, hput⟩ | ⟨p, k, h, rfl, rfl, ho, hmem, hk, hst⟩
    · exact walk_no W ad cap o at' what er w hl hr her hput
    · exact walk_yes W ad cap p k what w hr hwh h ho hmem hk hst
  · exact big ad W.length cap o at' what w hm (by omega)

set_option maxRecDepth 100000 in
theorem lifted (os : Os) (started : os.Started) (H : Type) (enc : TypeId × Value → H) :
    ReturnsInHanded {} Try.checked os 5 .any (Rows.heapKeepsSpec.pre6 enc Try.prog Try.f5 Rows.heapKeepsRow.domain false) (Rows.heapKeepsSpec.post enc Try.prog Try.f5 false true false false) := by
  refine returnsInHanded_of_change (C := Try.checked) own started (by kernel_rfl) Try.func5
    (ChangeSpec.witness6 (enc := enc) (C := Try.checked) false ⟨#[], #[.agg #[.slice none 0 0], .int .i64 0, .int .i64 0, .int .i64 0], []⟩ 8 (by kernel_rfl) (by kernel_rfl) (by kernel_rfl) (by kernel_rfl)) ?_
  intro W base args ds gs before hval0 hW hcnd _
  have hval : ∀ (j : Nat) t v, Try.f5.params[j]? = some t → args[j]? = some v → Value.okWide Try.prog W .any base t v := hval0
  have hW' := hW
  obtain ⟨p, q, hA0, hV, rfl, hfz, hnd⟩ := hW
  have hA : DataW.TrodAll enc Try.prog W 0 (fun _ => true) true Try.f5.params.toList args.toList ds p := hA0
  rw [Try.params5] at hA hval
  obtain ⟨v0, vs0, d0, ds0, p0, q0, hargs, rfl, rfl, h0, r0⟩ := trodAll_cons hA
  obtain ⟨v1, vs1, d1, ds1, p1, q1, rfl, rfl, rfl, h1, r1⟩ := trodAll_cons r0
  obtain ⟨v2, vs2, d2, ds2, p2, q2, rfl, rfl, rfl, h2, r2⟩ := trodAll_cons r1
  obtain ⟨v3, vs3, d3, ds3, p3, q3, rfl, rfl, rfl, h3, r3⟩ := trodAll_cons r2
  obtain ⟨rfl, rfl, rfl⟩ := trodAll_nil r3
  obtain rfl : args = #[v0, v1, v2, v3] := by cases args; simp_all
  obtain ⟨rfl, rfl⟩ := trodVars_none hV
  have lt0 : ∀ x ∈ p0, x.block < W.heap.size := by obtain ⟨m, hm⟩ := h0; exact DataW.trod_lt m _ _ _ hm
  obtain ⟨ad, cap, Ws, rfl, hm, hr⟩ := open_heap (hval 0 24 v0 rfl rfl) h0
  obtain ⟨a1, rfl, rfl, rfl, w1⟩ := open_int lt3 (hval 1 3 v1 rfl rfl) h1
  obtain ⟨a2, rfl, rfl, rfl, w2⟩ := open_int lt3 (hval 2 3 v2 rfl rfl) h2
  obtain ⟨a3, rfl, rfl, rfl, w3⟩ := open_int lt3 (hval 3 3 v3 rfl rfl) h3
  clear hA0 hval0
  refine (walk Ws ad cap a1 a2 a3 W hm w3 hr).mono fun e W' ⟨he, bel⟩ => ?_
  subst he
  exact ⟨_, rfl, _, _, _, [], _, [], hW', trodAll_mk1 (shut_bool lt4 _), (trodAll_cons_mk (Below.trod laidOut (by kernel_rfl) (of_decide_eq_true (by kernel_rfl)) h0 bel lt0) (trodAll_cons_mk (shut_int lt3 w1) (trodAll_cons_mk (shut_int lt3 w2) (trodAll_cons_mk (shut_int lt3 w3) trodAll_mk0)))), rfl, bel.frame _, fun h => by cases h⟩

theorem over : Rows.heapKeepsRow.holds Try.pinned (OpenSpec.ofChange Rows.heapKeepsSpec) :=
  OpenClaim.holds_of_wide 5 Try.f5 rfl rfl rfl rfl rfl rfl rfl ⟨rfl, rfl, rfl, rfl, rfl⟩ rfl rfl rfl rfl rfl (by kernel_rfl) Try.func5 (by kernel_rfl)
    (of_decide_eq_true (by kernel_rfl)) (by unfold Func.isWrapper; first | (rw [if_pos (by decide +kernel)]; kernel_rfl) | (rw [if_neg (by decide +kernel)]; exact ⟨rfl, rfl⟩))
    (fun os started H enc _ => lifted os started H enc)

end Go.Proofs.Ytpapaadclkdbkaa.heapKeeps
namespace Go.Proofs.Ytpapaadclkdbkaa
/-- The statement. -/
theorem heapKeeps_holds : Rows.HeapKeepsSaid := heapKeeps.over
#print axioms heapKeeps_holds
end Go.Proofs.Ytpapaadclkdbkaa
