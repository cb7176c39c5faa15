/- Several texts in one. -/
import Derived.Test.YtkppdndbfedijadGreatDoorMq
/- package syntax: statements. -/
namespace Go.Proofs.YtkppdndbfedijadGreatDoor
open Go.RowKit

theorem sees_set {S : Src9} {x : List Int} {s : PS} (h : seesB S x s = true) : setB S s = false := by
  unfold setB
  cases hi : isB S 1 s with
  | false => rfl
  | true => rw [name_sees hi] at h; cases h
theorem one_condS (S : Src9) (kind : Int) (s : PS) : oneC S kind s = (condC S s).then fun k s => (wantP S sSemi s).then fun _ s => nodeP kind [] 0 [k] s := by
  unfold oneC condC
  rw [then_assoc]
  refine then_same rfl fun u s1 _ => ?_
  rw [then_assoc]
  refine then_same rfl fun k s2 _ => ?_
  rw [then_assoc]
  refine then_same rfl fun u s3 _ => ?_
  rfl
set_option maxRecDepth 20000 in
set_option maxHeartbeats 16000000 in
theorem sstmt_var (Q B : Nat) (v : Value) (S : Src9) (hl : Looks S) (hnf : NumFit S) (s : PS) (y : seesB S wVar s = true) (w : World) (hp : Rdr w Q B v S s) :
    Calls Tryz.prog 103 #[.pointer (some ⟨Q, 0, none⟩)] w fun e w' => OutS Q B v S w (NodeG w) (withC S 7 s.step) e w' := by
  have hB := hp.size
  have hqb := hp.qb
  have HPA : Hid (Rdr (w.alloc zeroNS) Q B v S s) := hp.below ((Below.refl _ w).alloc (Nat.le_refl _) _)
  have HX : Hid (Box4 (w.alloc zeroNS) w.heap.size (.int .i64 0) (.string ⟨#[]⟩) (.int .i64 0) (.slice none 0 0)) := Box4.new _ _ _ _ _
  have hty := fun w' (h' : Rdr w' Q B v S s) => stakes_yes hl (x := ⟨#[118, 97, 114]⟩) (l := wVar) (by decide) (by decide) (by decide) (by decide) y w' h'
  have hse := fun w' (h' : Rdr w' Q B v S s.step) => ssetting_any Q B v S hl hnf s.step 7 w' h'
  clear hp y
  cases hq : withC S 7 s.step with
  | error f =>
    rw [hq] at hse
    clear hq
    go_enter Tryz.func103, Tryz.ntmps103
    go_wp2_with (first | (go_at_call_of 99 (Value.string ⟨#[118, 97, 114]⟩); refine (hty _ HPA.out).mono ?_; rintro e wy ⟨rfl, hpy, hgy'⟩; have hgy := (World.grownBy_alloc w zeroNS (some Q)).trans hgy'; have hXy := HX.out.grown hgy' (by omega); have hly := hXy.lt) | (go_at_call 139; refine (hse _ hpy).mono ?_; rintro e w2 ⟨rfl, hg2⟩))
    exact ⟨rfl, rfl, hgy.trans hg2⟩
  | ok z =>
    obtain ⟨k, s2⟩ := z
    rw [hq] at hse
    clear hq
    go_enter Tryz.func103, Tryz.ntmps103
    go_wp2_with (first | (go_at_call_of 99 (Value.string ⟨#[118, 97, 114]⟩); refine (hty _ HPA.out).mono ?_; rintro e wy ⟨rfl, hpy, hgy'⟩; have hgy := (World.grownBy_alloc w zeroNS (some Q)).trans hgy'; have hXy := HX.out.grown hgy' (by omega); have hly := hXy.lt) | (go_at_call 139; refine (hse _ hpy).mono ?_; rintro e w2 ⟨u2, rfl, hv2, hp2, hg2⟩; obtain ⟨a, b, c, ad, ln, cp, hu⟩ := NodeV.any hv2; subst hu; have hlx := hXy.lt; obtain ⟨⟨x0, x1, x2, x3⟩, f0, f1, f2, f3⟩ := (hXy.grown hg2 (by omega)).facts))
    refine bodyPost_ret (v := .agg #[.int .i64 a, .string b, .int .i64 c, .slice ad ln cp]) (by simp [results, Tryz.results103, go_sem, x0, x1, x2, x3]) rfl ?_
    exact out_box (NodeV.mono hv2 (fun j hj _ => by have hj' : wy.heap.size ≤ j := hj; show w.heap.size + 1 ≤ j; omega)) hp2 (hgy.trans hg2) hB
set_option maxRecDepth 20000 in
set_option maxHeartbeats 16000000 in
theorem sstmt_set (Q B : Nat) (v : Value) (S : Src9) (hl : Looks S) (hnf : NumFit S) (s : PS) (n0 : seesB S wVar s = false) (hset : setB S s = true) (w : World) (hp : Rdr w Q B v S s) :
    Calls Tryz.prog 103 #[.pointer (some ⟨Q, 0, none⟩)] w fun e w' => OutS Q B v S w (NodeG w) (withC S 8 s) e w' := by
  have hB := hp.size
  have hqb := hp.qb
  have HPA : Hid (Rdr (w.alloc zeroNS) Q B v S s) := hp.below ((Below.refl _ w).alloc (Nat.le_refl _) _)
  have HX : Hid (Box4 (w.alloc zeroNS) w.heap.size (.int .i64 0) (.string ⟨#[]⟩) (.int .i64 0) (.slice none 0 0)) := Box4.new _ _ _ _ _
  have ht0 := fun w' (h' : Rdr w' Q B v S s) => stakes_no hl (x := ⟨#[118, 97, 114]⟩) (l := wVar) (by decide) (by decide) n0 w' h'
  have hbs : ∀ w', Rdr w' Q B v S s → Calls Tryz.prog 140 #[.pointer (some ⟨Q, 0, none⟩)] w' fun e w'' => e = .returned (.bool true) ∧ Below w'.heap.size w' w'' := fun w' h' => by have := sbegins_any Q B v S s w' h'; rw [hset] at this; exact this
  have hse := fun w' (h' : Rdr w' Q B v S s) => ssetting_any Q B v S hl hnf s 8 w' h'
  clear hp hset n0
  cases hq : withC S 8 s with
  | error f =>
    rw [hq] at hse
    clear hq
    go_enter Tryz.func103, Tryz.ntmps103
    go_wp2_with (first | (go_at_call_of 99 (Value.string ⟨#[118, 97, 114]⟩); refine (ht0 _ HPA.out).mono ?_; rintro e wa ⟨rfl, hpa, hga'⟩; have hga := (World.grownBy_alloc w zeroNS (some Q)).trans hga'; have hXa := HX.out.grown hga' (by omega)) | (go_at_call 140; refine (hbs _ hpa).mono ?_; rintro e wb ⟨rfl, hbb'⟩; have hpb := hpa.below hbb'; have hgb := hga.trans (grown_below Q hbb'); have hXb := hXa.grown (grown_below Q hbb') (by omega)) | (go_at_call 139; refine (hse _ hpb).mono ?_; rintro e w2 ⟨rfl, hg2⟩))
    exact ⟨rfl, rfl, hgb.trans hg2⟩
  | ok z =>
    obtain ⟨k, s2⟩ := z
    rw [hq] at hse
    clear hq
    go_enter Tryz.func103, Tryz.ntmps103
    go_wp2_with (first | (go_at_call_of 99 (Value.string ⟨#[118, 97, 114]⟩); refine (ht0 _ HPA.out).mono ?_; rintro e wa ⟨rfl, hpa, hga'⟩; have hga := (World.grownBy_alloc w zeroNS (some Q)).trans hga'; have hXa := HX.out.grown hga' (by omega)) | (go_at_call 140; refine (hbs _ hpa).mono ?_; rintro e wb ⟨rfl, hbb'⟩; have hpb := hpa.below hbb'; have hgb := hga.trans (grown_below Q hbb'); have hXb := hXa.grown (grown_below Q hbb') (by omega)) | (go_at_call 139; refine (hse _ hpb).mono ?_; rintro e w2 ⟨u2, rfl, hv2, hp2, hg2⟩; obtain ⟨a, b, c, ad, ln, cp, hu⟩ := NodeV.any hv2; subst hu; have hlx := hXb.lt; obtain ⟨⟨x0, x1, x2, x3⟩, f0, f1, f2, f3⟩ := (hXb.grown hg2 (by omega)).facts))
    refine bodyPost_ret (v := .agg #[.int .i64 a, .string b, .int .i64 c, .slice ad ln cp]) (by simp [results, Tryz.results103, go_sem, x0, x1, x2, x3]) rfl ?_
    exact out_box (NodeV.mono hv2 (fun j hj _ => by have hj' : wb.heap.size ≤ j := hj; show w.heap.size + 1 ≤ j; omega)) hp2 (hgb.trans hg2) hB
set_option maxRecDepth 20000 in
set_option maxHeartbeats 16000000 in
theorem sstmt_return (Q B : Nat) (v : Value) (S : Src9) (hl : Looks S) (hnf : NumFit S) (s : PS) (n0 : seesB S wVar s = false) (n1 : seesB S wIf s = false) (n2 : seesB S wWhile s = false) (hset : setB S s = false) (y : seesB S wReturn s = true) (w : World) (hp : Rdr w Q B v S s) :
    Calls Tryz.prog 103 #[.pointer (some ⟨Q, 0, none⟩)] w fun e w' => OutS Q B v S w (NodeG w) ((exprC S s.step).then fun k s => (wantP S sSemi s).then fun _ s => nodeP 11 [] 0 [k] s) e w' := by
  have hB := hp.size
  have hqb := hp.qb
  have HPA : Hid (Rdr (w.alloc zeroNS) Q B v S s) := hp.below ((Below.refl _ w).alloc (Nat.le_refl _) _)
  have HX : Hid (Box4 (w.alloc zeroNS) w.heap.size (.int .i64 0) (.string ⟨#[]⟩) (.int .i64 0) (.slice none 0 0)) := Box4.new _ _ _ _ _
  have ht0 := fun w' (h' : Rdr w' Q B v S s) => stakes_no hl (x := ⟨#[118, 97, 114]⟩) (l := wVar) (by decide) (by decide) n0 w' h'
  have ht1 := fun w' (h' : Rdr w' Q B v S s) => stakes_no hl (x := ⟨#[105, 102]⟩) (l := wIf) (by decide) (by decide) n1 w' h'
  have ht2 := fun w' (h' : Rdr w' Q B v S s) => stakes_no hl (x := ⟨#[119, 104, 105, 108, 101]⟩) (l := wWhile) (by decide) (by decide) n2 w' h'
  have hbs : ∀ w', Rdr w' Q B v S s → Calls Tryz.prog 140 #[.pointer (some ⟨Q, 0, none⟩)] w' fun e w'' => e = .returned (.bool false) ∧ Below w'.heap.size w' w'' := fun w' h' => by have := sbegins_any Q B v S s w' h'; rw [hset] at this; exact this
  have hty := fun w' (h' : Rdr w' Q B v S s) => stakes_yes hl (x := ⟨#[114, 101, 116, 117, 114, 110]⟩) (l := wReturn) (by decide) (by decide) (by decide) (by decide) y w' h'
  have hr := sexpr_any Q B v S hl hnf s.step
  clear hp y hset n0 n1 n2
  unfold ReadsS at hr
  cases hq : exprC S s.step with
  | error f =>
    rw [hq] at hr
    clear hq
    go_enter Tryz.func103, Tryz.ntmps103
    go_wp2_with (first | (go_at_call_of 99 (Value.string ⟨#[118, 97, 114]⟩); refine (ht0 _ HPA.out).mono ?_; rintro e wa ⟨rfl, hpa, hga'⟩; have hga := (World.grownBy_alloc w zeroNS (some Q)).trans hga'; have hXa := HX.out.grown hga' (by omega)) | (go_at_call 140; refine (hbs _ hpa).mono ?_; rintro e wb ⟨rfl, hbb'⟩; have hpb := hpa.below hbb'; have hgb := hga.trans (grown_below Q hbb'); have hXb := hXa.grown (grown_below Q hbb') (by omega)) | (go_at_call_of 99 (Value.string ⟨#[105, 102]⟩); refine (ht1 _ hpb).mono ?_; rintro e wc ⟨rfl, hpc, hgc'⟩; have hgc := hgb.trans hgc'; have hXc := hXb.grown hgc' (by omega)) | (go_at_call_of 99 (Value.string ⟨#[119, 104, 105, 108, 101]⟩); refine (ht2 _ hpc).mono ?_; rintro e wd ⟨rfl, hpd, hgd'⟩; have hgd := hgc.trans hgd'; have hXd := hXc.grown hgd' (by omega)) | (go_at_call_of 99 (Value.string ⟨#[114, 101, 116, 117, 114, 110]⟩); refine (hty _ hpd).mono ?_; rintro e wy ⟨rfl, hpy, hgy'⟩; have hgy := hgd.trans hgy'; have hXy := hXd.grown hgy' (by omega); have hly := hXy.lt) | (go_at_call 144; refine (hr _ hpy).mono ?_; rintro e w2 ⟨rfl, hg2⟩))
    exact ⟨rfl, rfl, hgy.trans hg2⟩
  | ok z =>
    obtain ⟨k, s2⟩ := z
    rw [hq] at hr
    rw [then_ok]
    clear hq
    have hen := sended_any Q B (From (w.heap.size + 1)) v S hl s2 11 k
    cases hq : wantP S sSemi s2 with
    | error f =>
      rw [hq] at hen
      clear hq
      go_enter Tryz.func103, Tryz.ntmps103
      go_wp2_with (first | (go_at_call_of 99 (Value.string ⟨#[118, 97, 114]⟩); refine (ht0 _ HPA.out).mono ?_; rintro e wa ⟨rfl, hpa, hga'⟩; have hga := (World.grownBy_alloc w zeroNS (some Q)).trans hga'; have hXa := HX.out.grown hga' (by omega)) | (go_at_call 140; refine (hbs _ hpa).mono ?_; rintro e wb ⟨rfl, hbb'⟩; have hpb := hpa.below hbb'; have hgb := hga.trans (grown_below Q hbb'); have hXb := hXa.grown (grown_below Q hbb') (by omega)) | (go_at_call_of 99 (Value.string ⟨#[105, 102]⟩); refine (ht1 _ hpb).mono ?_; rintro e wc ⟨rfl, hpc, hgc'⟩; have hgc := hgb.trans hgc'; have hXc := hXb.grown hgc' (by omega)) | (go_at_call_of 99 (Value.string ⟨#[119, 104, 105, 108, 101]⟩); refine (ht2 _ hpc).mono ?_; rintro e wd ⟨rfl, hpd, hgd'⟩; have hgd := hgc.trans hgd'; have hXd := hXc.grown hgd' (by omega)) | (go_at_call_of 99 (Value.string ⟨#[114, 101, 116, 117, 114, 110]⟩); refine (hty _ hpd).mono ?_; rintro e wy ⟨rfl, hpy, hgy'⟩; have hgy := hgd.trans hgy'; have hXy := hXd.grown hgy' (by omega); have hly := hXy.lt) | (go_at_call 144; refine (hr _ hpy).mono ?_; rintro e w2 ⟨u2, rfl, hv2, hp2, hg2⟩; obtain ⟨a, b, c, ad, ln, cp, hu⟩ := NodeV.any hv2; subst hu; have hlx := hXy.lt; have hX2 := hXy.grown hg2 (by omega); have hl2 := hX2.lt) | (go_at_call 143; refine (hen _ _ _ _ _ _ w2 (NodeV.mono hv2 (fun j hj _ => by have hj' : wy.heap.size ≤ j := hj; show w.heap.size + 1 ≤ j; omega)) (by show ¬ w.heap.size + 1 ≤ Q; omega) (fun j hj => by show w.heap.size + 1 ≤ j; omega) hp2).mono ?_; rintro e w3 ⟨rfl, hg3⟩))
      exact ⟨rfl, rfl, (hgy.trans hg2).trans hg3⟩
    | ok z =>
      obtain ⟨⟨⟩, s3⟩ := z
      rw [hq, then_ok] at hen
      rw [then_ok]
      clear hq
      go_enter Tryz.func103, Tryz.ntmps103
      go_wp2_with (first | (go_at_call_of 99 (Value.string ⟨#[118, 97, 114]⟩); refine (ht0 _ HPA.out).mono ?_; rintro e wa ⟨rfl, hpa, hga'⟩; have hga := (World.grownBy_alloc w zeroNS (some Q)).trans hga'; have hXa := HX.out.grown hga' (by omega)) | (go_at_call 140; refine (hbs _ hpa).mono ?_; rintro e wb ⟨rfl, hbb'⟩; have hpb := hpa.below hbb'; have hgb := hga.trans (grown_below Q hbb'); have hXb := hXa.grown (grown_below Q hbb') (by omega)) | (go_at_call_of 99 (Value.string ⟨#[105, 102]⟩); refine (ht1 _ hpb).mono ?_; rintro e wc ⟨rfl, hpc, hgc'⟩; have hgc := hgb.trans hgc'; have hXc := hXb.grown hgc' (by omega)) | (go_at_call_of 99 (Value.string ⟨#[119, 104, 105, 108, 101]⟩); refine (ht2 _ hpc).mono ?_; rintro e wd ⟨rfl, hpd, hgd'⟩; have hgd := hgc.trans hgd'; have hXd := hXc.grown hgd' (by omega)) | (go_at_call_of 99 (Value.string ⟨#[114, 101, 116, 117, 114, 110]⟩); refine (hty _ hpd).mono ?_; rintro e wy ⟨rfl, hpy, hgy'⟩; have hgy := hgd.trans hgy'; have hXy := hXd.grown hgy' (by omega); have hly := hXy.lt) | (go_at_call 144; refine (hr _ hpy).mono ?_; rintro e w2 ⟨u2, rfl, hv2, hp2, hg2⟩; obtain ⟨a, b, c, ad, ln, cp, hu⟩ := NodeV.any hv2; subst hu; have hlx := hXy.lt; have hX2 := hXy.grown hg2 (by omega); have hl2 := hX2.lt) | (go_at_call 143; refine (hen _ _ _ _ _ _ w2 (NodeV.mono hv2 (fun j hj _ => by have hj' : wy.heap.size ≤ j := hj; show w.heap.size + 1 ≤ j; omega)) (by show ¬ w.heap.size + 1 ≤ Q; omega) (fun j hj => by show w.heap.size + 1 ≤ j; omega) hp2).mono ?_; rintro e w3 ⟨u3, rfl, hv3, hp3, hg3⟩; obtain ⟨a3, b3, c3, ad3, ln3, cp3, hu3⟩ := NodeV.any hv3; subst hu3; obtain ⟨⟨x0, x1, x2, x3⟩, f0, f1, f2, f3⟩ := (hX2.grown hg3 (by omega)).facts))
      refine bodyPost_ret (v := .agg #[.int .i64 a3, .string b3, .int .i64 c3, .slice ad3 ln3 cp3]) (by simp [results, Tryz.results103, go_sem, x0, x1, x2, x3]) rfl ?_
      exact out_box hv3 hp3 ((hgy.trans hg2).trans hg3) hB
set_option maxRecDepth 20000 in
set_option maxHeartbeats 16000000 in
theorem sstmt_print (Q B : Nat) (v : Value) (S : Src9) (hl : Looks S) (hnf : NumFit S) (s : PS) (n0 : seesB S wVar s = false) (n1 : seesB S wIf s = false) (n2 : seesB S wWhile s = false) (n3 : seesB S wReturn s = false) (hset : setB S s = false) (y : seesB S wPrint s = true) (w : World) (hp : Rdr w Q B v S s) :
    Calls Tryz.prog 103 #[.pointer (some ⟨Q, 0, none⟩)] w fun e w' => OutS Q B v S w (NodeG w) (oneC S 12 s.step) e w' := by
  have hB := hp.size
  have hqb := hp.qb
  have HPA : Hid (Rdr (w.alloc zeroNS) Q B v S s) := hp.below ((Below.refl _ w).alloc (Nat.le_refl _) _)
  have HX : Hid (Box4 (w.alloc zeroNS) w.heap.size (.int .i64 0) (.string ⟨#[]⟩) (.int .i64 0) (.slice none 0 0)) := Box4.new _ _ _ _ _
  have ht0 := fun w' (h' : Rdr w' Q B v S s) => stakes_no hl (x := ⟨#[118, 97, 114]⟩) (l := wVar) (by decide) (by decide) n0 w' h'
  have ht1 := fun w' (h' : Rdr w' Q B v S s) => stakes_no hl (x := ⟨#[105, 102]⟩) (l := wIf) (by decide) (by decide) n1 w' h'
  have ht2 := fun w' (h' : Rdr w' Q B v S s) => stakes_no hl (x := ⟨#[119, 104, 105, 108, 101]⟩) (l := wWhile) (by decide) (by decide) n2 w' h'
  have ht3 := fun w' (h' : Rdr w' Q B v S s) => stakes_no hl (x := ⟨#[114, 101, 116, 117, 114, 110]⟩) (l := wReturn) (by decide) (by decide) n3 w' h'
  have hbs : ∀ w', Rdr w' Q B v S s → Calls Tryz.prog 140 #[.pointer (some ⟨Q, 0, none⟩)] w' fun e w'' => e = .returned (.bool false) ∧ Below w'.heap.size w' w'' := fun w' h' => by have := sbegins_any Q B v S s w' h'; rw [hset] at this; exact this
  have hty := fun w' (h' : Rdr w' Q B v S s) => stakes_yes hl (x := ⟨#[112, 114, 105, 110, 116]⟩) (l := wPrint) (by decide) (by decide) (by decide) (by decide) y w' h'
  have hr := scond_any Q B v S hl hnf s.step
  clear hp y hset n0 n1 n2 n3
  rw [one_condS]
  unfold ReadsS at hr
  cases hq : condC S s.step with
  | error f =>
    rw [hq] at hr
    clear hq
    go_enter Tryz.func103, Tryz.ntmps103
    go_wp2_with (first | (go_at_call_of 99 (Value.string ⟨#[118, 97, 114]⟩); refine (ht0 _ HPA.out).mono ?_; rintro e wa ⟨rfl, hpa, hga'⟩; have hga := (World.grownBy_alloc w zeroNS (some Q)).trans hga'; have hXa := HX.out.grown hga' (by omega)) | (go_at_call 140; refine (hbs _ hpa).mono ?_; rintro e wb ⟨rfl, hbb'⟩; have hpb := hpa.below hbb'; have hgb := hga.trans (grown_below Q hbb'); have hXb := hXa.grown (grown_below Q hbb') (by omega)) | (go_at_call_of 99 (Value.string ⟨#[105, 102]⟩); refine (ht1 _ hpb).mono ?_; rintro e wc ⟨rfl, hpc, hgc'⟩; have hgc := hgb.trans hgc'; have hXc := hXb.grown hgc' (by omega)) | (go_at_call_of 99 (Value.string ⟨#[119, 104, 105, 108, 101]⟩); refine (ht2 _ hpc).mono ?_; rintro e wd ⟨rfl, hpd, hgd'⟩; have hgd := hgc.trans hgd'; have hXd := hXc.grown hgd' (by omega)) | (go_at_call_of 99 (Value.string ⟨#[114, 101, 116, 117, 114, 110]⟩); refine (ht3 _ hpd).mono ?_; rintro e we ⟨rfl, hpe, hge'⟩; have hge := hgd.trans hge'; have hXe := hXd.grown hge' (by omega)) | (go_at_call_of 99 (Value.string ⟨#[112, 114, 105, 110, 116]⟩); refine (hty _ hpe).mono ?_; rintro e wy ⟨rfl, hpy, hgy'⟩; have hgy := hge.trans hgy'; have hXy := hXe.grown hgy' (by omega); have hly := hXy.lt) | (go_at_call 142; refine (hr _ hpy).mono ?_; rintro e w2 ⟨rfl, hg2⟩))
    exact ⟨rfl, rfl, hgy.trans hg2⟩
  | ok z =>
    obtain ⟨k, s2⟩ := z
    rw [hq] at hr
    rw [then_ok]
    clear hq
    have hen := sended_any Q B (From (w.heap.size + 1)) v S hl s2 12 k
    cases hq : wantP S sSemi s2 with
    | error f =>
      rw [hq] at hen
      clear hq
      go_enter Tryz.func103, Tryz.ntmps103
      go_wp2_with (first | (go_at_call_of 99 (Value.string ⟨#[118, 97, 114]⟩); refine (ht0 _ HPA.out).mono ?_; rintro e wa ⟨rfl, hpa, hga'⟩; have hga := (World.grownBy_alloc w zeroNS (some Q)).trans hga'; have hXa := HX.out.grown hga' (by omega)) | (go_at_call 140; refine (hbs _ hpa).mono ?_; rintro e wb ⟨rfl, hbb'⟩; have hpb := hpa.below hbb'; have hgb := hga.trans (grown_below Q hbb'); have hXb := hXa.grown (grown_below Q hbb') (by omega)) | (go_at_call_of 99 (Value.string ⟨#[105, 102]⟩); refine (ht1 _ hpb).mono ?_; rintro e wc ⟨rfl, hpc, hgc'⟩; have hgc := hgb.trans hgc'; have hXc := hXb.grown hgc' (by omega)) | (go_at_call_of 99 (Value.string ⟨#[119, 104, 105, 108, 101]⟩); refine (ht2 _ hpc).mono ?_; rintro e wd ⟨rfl, hpd, hgd'⟩; have hgd := hgc.trans hgd'; have hXd := hXc.grown hgd' (by omega)) | (go_at_call_of 99 (Value.string ⟨#[114, 101, 116, 117, 114, 110]⟩); refine (ht3 _ hpd).mono ?_; rintro e we ⟨rfl, hpe, hge'⟩; have hge := hgd.trans hge'; have hXe := hXd.grown hge' (by omega)) | (go_at_call_of 99 (Value.string ⟨#[112, 114, 105, 110, 116]⟩); refine (hty _ hpe).mono ?_; rintro e wy ⟨rfl, hpy, hgy'⟩; have hgy := hge.trans hgy'; have hXy := hXe.grown hgy' (by omega); have hly := hXy.lt) | (go_at_call 142; refine (hr _ hpy).mono ?_; rintro e w2 ⟨u2, rfl, hv2, hp2, hg2⟩; obtain ⟨a, b, c, ad, ln, cp, hu⟩ := NodeV.any hv2; subst hu; have hlx := hXy.lt; have hX2 := hXy.grown hg2 (by omega); have hl2 := hX2.lt) | (go_at_call 143; refine (hen _ _ _ _ _ _ w2 (NodeV.mono hv2 (fun j hj _ => by have hj' : wy.heap.size ≤ j := hj; show w.heap.size + 1 ≤ j; omega)) (by show ¬ w.heap.size + 1 ≤ Q; omega) (fun j hj => by show w.heap.size + 1 ≤ j; omega) hp2).mono ?_; rintro e w3 ⟨rfl, hg3⟩))
      exact ⟨rfl, rfl, (hgy.trans hg2).trans hg3⟩
    | ok z =>
      obtain ⟨⟨⟩, s3⟩ := z
      rw [hq, then_ok] at hen
      rw [then_ok]
      clear hq
      go_enter Tryz.func103, Tryz.ntmps103
      go_wp2_with (first | (go_at_call_of 99 (Value.string ⟨#[118, 97, 114]⟩); refine (ht0 _ HPA.out).mono ?_; rintro e wa ⟨rfl, hpa, hga'⟩; have hga := (World.grownBy_alloc w zeroNS (some Q)).trans hga'; have hXa := HX.out.grown hga' (by omega)) | (go_at_call 140; refine (hbs _ hpa).mono ?_; rintro e wb ⟨rfl, hbb'⟩; have hpb := hpa.below hbb'; have hgb := hga.trans (grown_below Q hbb'); have hXb := hXa.grown (grown_below Q hbb') (by omega)) | (go_at_call_of 99 (Value.string ⟨#[105, 102]⟩); refine (ht1 _ hpb).mono ?_; rintro e wc ⟨rfl, hpc, hgc'⟩; have hgc := hgb.trans hgc'; have hXc := hXb.grown hgc' (by omega)) | (go_at_call_of 99 (Value.string ⟨#[119, 104, 105, 108, 101]⟩); refine (ht2 _ hpc).mono ?_; rintro e wd ⟨rfl, hpd, hgd'⟩; have hgd := hgc.trans hgd'; have hXd := hXc.grown hgd' (by omega)) | (go_at_call_of 99 (Value.string ⟨#[114, 101, 116, 117, 114, 110]⟩); refine (ht3 _ hpd).mono ?_; rintro e we ⟨rfl, hpe, hge'⟩; have hge := hgd.trans hge'; have hXe := hXd.grown hge' (by omega)) | (go_at_call_of 99 (Value.string ⟨#[112, 114, 105, 110, 116]⟩); refine (hty _ hpe).mono ?_; rintro e wy ⟨rfl, hpy, hgy'⟩; have hgy := hge.trans hgy'; have hXy := hXe.grown hgy' (by omega); have hly := hXy.lt) | (go_at_call 142; refine (hr _ hpy).mono ?_; rintro e w2 ⟨u2, rfl, hv2, hp2, hg2⟩; obtain ⟨a, b, c, ad, ln, cp, hu⟩ := NodeV.any hv2; subst hu; have hlx := hXy.lt; have hX2 := hXy.grown hg2 (by omega); have hl2 := hX2.lt) | (go_at_call 143; refine (hen _ _ _ _ _ _ w2 (NodeV.mono hv2 (fun j hj _ => by have hj' : wy.heap.size ≤ j := hj; show w.heap.size + 1 ≤ j; omega)) (by show ¬ w.heap.size + 1 ≤ Q; omega) (fun j hj => by show w.heap.size + 1 ≤ j; omega) hp2).mono ?_; rintro e w3 ⟨u3, rfl, hv3, hp3, hg3⟩; obtain ⟨a3, b3, c3, ad3, ln3, cp3, hu3⟩ := NodeV.any hv3; subst hu3; obtain ⟨⟨x0, x1, x2, x3⟩, f0, f1, f2, f3⟩ := (hX2.grown hg3 (by omega)).facts))
      refine bodyPost_ret (v := .agg #[.int .i64 a3, .string b3, .int .i64 c3, .slice ad3 ln3 cp3]) (by simp [results, Tryz.results103, go_sem, x0, x1, x2, x3]) rfl ?_
      exact out_box hv3 hp3 ((hgy.trans hg2).trans hg3) hB
set_option maxRecDepth 20000 in
set_option maxHeartbeats 16000000 in
theorem sstmt_wait (Q B : Nat) (v : Value) (S : Src9) (hl : Looks S) (hnf : NumFit S) (s : PS) (n0 : seesB S wVar s = false) (n1 : seesB S wIf s = false) (n2 : seesB S wWhile s = false) (n3 : seesB S wReturn s = false) (n4 : seesB S wPrint s = false) (n5 : seesB S wFork s = false) (hset : setB S s = false) (y : seesB S wWait s = true) (w : World) (hp : Rdr w Q B v S s) :
    Calls Tryz.prog 103 #[.pointer (some ⟨Q, 0, none⟩)] w fun e w' => OutS Q B v S w (NodeG w) (oneC S 14 s.step) e w' := by
  have hB := hp.size
  have hqb := hp.qb
  have HPA : Hid (Rdr (w.alloc zeroNS) Q B v S s) := hp.below ((Below.refl _ w).alloc (Nat.le_refl _) _)
  have HX : Hid (Box4 (w.alloc zeroNS) w.heap.size (.int .i64 0) (.string ⟨#[]⟩) (.int .i64 0) (.slice none 0 0)) := Box4.new _ _ _ _ _
  have ht0 := fun w' (h' : Rdr w' Q B v S s) => stakes_no hl (x := ⟨#[118, 97, 114]⟩) (l := wVar) (by decide) (by decide) n0 w' h'
  have ht1 := fun w' (h' : Rdr w' Q B v S s) => stakes_no hl (x := ⟨#[105, 102]⟩) (l := wIf) (by decide) (by decide) n1 w' h'
  have ht2 := fun w' (h' : Rdr w' Q B v S s) => stakes_no hl (x := ⟨#[119, 104, 105, 108, 101]⟩) (l := wWhile) (by decide) (by decide) n2 w' h'
  have ht3 := fun w' (h' : Rdr w' Q B v S s) => stakes_no hl (x := ⟨#[114, 101, 116, 117, 114, 110]⟩) (l := wReturn) (by decide) (by decide) n3 w' h'
  have ht4 := fun w' (h' : Rdr w' Q B v S s) => stakes_no hl (x := ⟨#[112, 114, 105, 110, 116]⟩) (l := wPrint) (by decide) (by decide) n4 w' h'
  have ht5 := fun w' (h' : Rdr w' Q B v S s) => stakes_no hl (x := ⟨#[102, 111, 114, 107]⟩) (l := wFork) (by decide) (by decide) n5 w' h'
  have hbs : ∀ w', Rdr w' Q B v S s → Calls Tryz.prog 140 #[.pointer (some ⟨Q, 0, none⟩)] w' fun e w'' => e = .returned (.bool false) ∧ Below w'.heap.size w' w'' := fun w' h' => by have := sbegins_any Q B v S s w' h'; rw [hset] at this; exact this
  have hty := fun w' (h' : Rdr w' Q B v S s) => stakes_yes hl (x := ⟨#[119, 97, 105, 116]⟩) (l := wWait) (by decide) (by decide) (by decide) (by decide) y w' h'
  have hr := scond_any Q B v S hl hnf s.step
  clear hp y hset n0 n1 n2 n3 n4 n5
  rw [one_condS]
  unfold ReadsS at hr
  cases hq : condC S s.step with
  | error f =>
    rw [hq] at hr
    clear hq
    go_enter Tryz.func103, Tryz.ntmps103
    go_wp2_with (first | (go_at_call_of 99 (Value.string ⟨#[118, 97, 114]⟩); refine (ht0 _ HPA.out).mono ?_; rintro e wa ⟨rfl, hpa, hga'⟩; have hga := (World.grownBy_alloc w zeroNS (some Q)).trans hga'; have hXa := HX.out.grown hga' (by omega)) | (go_at_call 140; refine (hbs _ hpa).mono ?_; rintro e wb ⟨rfl, hbb'⟩; have hpb := hpa.below hbb'; have hgb := hga.trans (grown_below Q hbb'); have hXb := hXa.grown (grown_below Q hbb') (by omega)) | (go_at_call_of 99 (Value.string ⟨#[105, 102]⟩); refine (ht1 _ hpb).mono ?_; rintro e wc ⟨rfl, hpc, hgc'⟩; have hgc := hgb.trans hgc'; have hXc := hXb.grown hgc' (by omega)) | (go_at_call_of 99 (Value.string ⟨#[119, 104, 105, 108, 101]⟩); refine (ht2 _ hpc).mono ?_; rintro e wd ⟨rfl, hpd, hgd'⟩; have hgd := hgc.trans hgd'; have hXd := hXc.grown hgd' (by omega)) | (go_at_call_of 99 (Value.string ⟨#[114, 101, 116, 117, 114, 110]⟩); refine (ht3 _ hpd).mono ?_; rintro e we ⟨rfl, hpe, hge'⟩; have hge := hgd.trans hge'; have hXe := hXd.grown hge' (by omega)) | (go_at_call_of 99 (Value.string ⟨#[112, 114, 105, 110, 116]⟩); refine (ht4 _ hpe).mono ?_; rintro e wf ⟨rfl, hpf, hgf'⟩; have hgf := hge.trans hgf'; have hXf := hXe.grown hgf' (by omega)) | (go_at_call_of 99 (Value.string ⟨#[102, 111, 114, 107]⟩); refine (ht5 _ hpf).mono ?_; rintro e wg ⟨rfl, hpg, hgg'⟩; have hgg := hgf.trans hgg'; have hXg := hXf.grown hgg' (by omega)) | (go_at_call_of 99 (Value.string ⟨#[119, 97, 105, 116]⟩); refine (hty _ hpg).mono ?_; rintro e wy ⟨rfl, hpy, hgy'⟩; have hgy := hgg.trans hgy'; have hXy := hXg.grown hgy' (by omega); have hly := hXy.lt) | (go_at_call 142; refine (hr _ hpy).mono ?_; rintro e w2 ⟨rfl, hg2⟩))
    exact ⟨rfl, rfl, hgy.trans hg2⟩
  | ok z =>
    obtain ⟨k, s2⟩ := z
    rw [hq] at hr
    rw [then_ok]
    clear hq
    have hen := sended_any Q B (From (w.heap.size + 1)) v S hl s2 14 k
    cases hq : wantP S sSemi s2 with
    | error f =>
      rw [hq] at hen
      clear hq
      go_enter Tryz.func103, Tryz.ntmps103
      go_wp2_with (first | (go_at_call_of 99 (Value.string ⟨#[118, 97, 114]⟩); refine (ht0 _ HPA.out).mono ?_; rintro e wa ⟨rfl, hpa, hga'⟩; have hga := (World.grownBy_alloc w zeroNS (some Q)).trans hga'; have hXa := HX.out.grown hga' (by omega)) | (go_at_call 140; refine (hbs _ hpa).mono ?_; rintro e wb ⟨rfl, hbb'⟩; have hpb := hpa.below hbb'; have hgb := hga.trans (grown_below Q hbb'); have hXb := hXa.grown (grown_below Q hbb') (by omega)) | (go_at_call_of 99 (Value.string ⟨#[105, 102]⟩); refine (ht1 _ hpb).mono ?_; rintro e wc ⟨rfl, hpc, hgc'⟩; have hgc := hgb.trans hgc'; have hXc := hXb.grown hgc' (by omega)) | (go_at_call_of 99 (Value.string ⟨#[119, 104, 105, 108, 101]⟩); refine (ht2 _ hpc).mono ?_; rintro e wd ⟨rfl, hpd, hgd'⟩; have hgd := hgc.trans hgd'; have hXd := hXc.grown hgd' (by omega)) | (go_at_call_of 99 (Value.string ⟨#[114, 101, 116, 117, 114, 110]⟩); refine (ht3 _ hpd).mono ?_; rintro e we ⟨rfl, hpe, hge'⟩; have hge := hgd.trans hge'; have hXe := hXd.grown hge' (by omega)) | (go_at_call_of 99 (Value.string ⟨#[112, 114, 105, 110, 116]⟩); refine (ht4 _ hpe).mono ?_; rintro e wf ⟨rfl, hpf, hgf'⟩; have hgf := hge.trans hgf'; have hXf := hXe.grown hgf' (by omega)) | (go_at_call_of 99 (Value.string ⟨#[102, 111, 114, 107]⟩); refine (ht5 _ hpf).mono ?_; rintro e wg ⟨rfl, hpg, hgg'⟩; have hgg := hgf.trans hgg'; have hXg := hXf.grown hgg' (by omega)) | (go_at_call_of 99 (Value.string ⟨#[119, 97, 105, 116]⟩); refine (hty _ hpg).mono ?_; rintro e wy ⟨rfl, hpy, hgy'⟩; have hgy := hgg.trans hgy'; have hXy := hXg.grown hgy' (by omega); have hly := hXy.lt) | (go_at_call 142; refine (hr _ hpy).mono ?_; rintro e w2 ⟨u2, rfl, hv2, hp2, hg2⟩; obtain ⟨a, b, c, ad, ln, cp, hu⟩ := NodeV.any hv2; subst hu; have hlx := hXy.lt; have hX2 := hXy.grown hg2 (by omega); have hl2 := hX2.lt) | (go_at_call 143; refine (hen _ _ _ _ _ _ w2 (NodeV.mono hv2 (fun j hj _ => by have hj' : wy.heap.size ≤ j := hj; show w.heap.size + 1 ≤ j; omega)) (by show ¬ w.heap.size + 1 ≤ Q; omega) (fun j hj => by show w.heap.size + 1 ≤ j; omega) hp2).mono ?_; rintro e w3 ⟨rfl, hg3⟩))
      exact ⟨rfl, rfl, (hgy.trans hg2).trans hg3⟩
    | ok z =>
      obtain ⟨⟨⟩, s3⟩ := z
      rw [hq, then_ok] at hen
      rw [then_ok]
      clear hq
      go_enter Tryz.func103, Tryz.ntmps103
      go_wp2_with (first | (go_at_call_of 99 (Value.string ⟨#[118, 97, 114]⟩); refine (ht0 _ HPA.out).mono ?_; rintro e wa ⟨rfl, hpa, hga'⟩; have hga := (World.grownBy_alloc w zeroNS (some Q)).trans hga'; have hXa := HX.out.grown hga' (by omega)) | (go_at_call 140; refine (hbs _ hpa).mono ?_; rintro e wb ⟨rfl, hbb'⟩; have hpb := hpa.below hbb'; have hgb := hga.trans (grown_below Q hbb'); have hXb := hXa.grown (grown_below Q hbb') (by omega)) | (go_at_call_of 99 (Value.string ⟨#[105, 102]⟩); refine (ht1 _ hpb).mono ?_; rintro e wc ⟨rfl, hpc, hgc'⟩; have hgc := hgb.trans hgc'; have hXc := hXb.grown hgc' (by omega)) | (go_at_call_of 99 (Value.string ⟨#[119, 104, 105, 108, 101]⟩); refine (ht2 _ hpc).mono ?_; rintro e wd ⟨rfl, hpd, hgd'⟩; have hgd := hgc.trans hgd'; have hXd := hXc.grown hgd' (by omega)) | (go_at_call_of 99 (Value.string ⟨#[114, 101, 116, 117, 114, 110]⟩); refine (ht3 _ hpd).mono ?_; rintro e we ⟨rfl, hpe, hge'⟩; have hge := hgd.trans hge'; have hXe := hXd.grown hge' (by omega)) | (go_at_call_of 99 (Value.string ⟨#[112, 114, 105, 110, 116]⟩); refine (ht4 _ hpe).mono ?_; rintro e wf ⟨rfl, hpf, hgf'⟩; have hgf := hge.trans hgf'; have hXf := hXe.grown hgf' (by omega)) | (go_at_call_of 99 (Value.string ⟨#[102, 111, 114, 107]⟩); refine (ht5 _ hpf).mono ?_; rintro e wg ⟨rfl, hpg, hgg'⟩; have hgg := hgf.trans hgg'; have hXg := hXf.grown hgg' (by omega)) | (go_at_call_of 99 (Value.string ⟨#[119, 97, 105, 116]⟩); refine (hty _ hpg).mono ?_; rintro e wy ⟨rfl, hpy, hgy'⟩; have hgy := hgg.trans hgy'; have hXy := hXg.grown hgy' (by omega); have hly := hXy.lt) | (go_at_call 142; refine (hr _ hpy).mono ?_; rintro e w2 ⟨u2, rfl, hv2, hp2, hg2⟩; obtain ⟨a, b, c, ad, ln, cp, hu⟩ := NodeV.any hv2; subst hu; have hlx := hXy.lt; have hX2 := hXy.grown hg2 (by omega); have hl2 := hX2.lt) | (go_at_call 143; refine (hen _ _ _ _ _ _ w2 (NodeV.mono hv2 (fun j hj _ => by have hj' : wy.heap.size ≤ j := hj; show w.heap.size + 1 ≤ j; omega)) (by show ¬ w.heap.size + 1 ≤ Q; omega) (fun j hj => by show w.heap.size + 1 ≤ j; omega) hp2).mono ?_; rintro e w3 ⟨u3, rfl, hv3, hp3, hg3⟩; obtain ⟨a3, b3, c3, ad3, ln3, cp3, hu3⟩ := NodeV.any hv3; subst hu3; obtain ⟨⟨x0, x1, x2, x3⟩, f0, f1, f2, f3⟩ := (hX2.grown hg3 (by omega)).facts))
      refine bodyPost_ret (v := .agg #[.int .i64 a3, .string b3, .int .i64 c3, .slice ad3 ln3 cp3]) (by simp [results, Tryz.results103, go_sem, x0, x1, x2, x3]) rfl ?_
      exact out_box hv3 hp3 ((hgy.trans hg2).trans hg3) hB
set_option maxRecDepth 20000 in
set_option maxHeartbeats 16000000 in
theorem sstmt_signal (Q B : Nat) (v : Value) (S : Src9) (hl : Looks S) (hnf : NumFit S) (s : PS) (n0 : seesB S wVar s = false) (n1 : seesB S wIf s = false) (n2 : seesB S wWhile s = false) (n3 : seesB S wReturn s = false) (n4 : seesB S wPrint s = false) (n5 : seesB S wFork s = false) (n6 : seesB S wWait s = false) (hset : setB S s = false) (y : seesB S wSignal s = true) (w : World) (hp : Rdr w Q B v S s) :
    Calls Tryz.prog 103 #[.pointer (some ⟨Q, 0, none⟩)] w fun e w' => OutS Q B v S w (NodeG w) (oneC S 15 s.step) e w' := by
  have hB := hp.size
  have hqb := hp.qb
  have HPA : Hid (Rdr (w.alloc zeroNS) Q B v S s) := hp.below ((Below.refl _ w).alloc (Nat.le_refl _) _)
  have HX : Hid (Box4 (w.alloc zeroNS) w.heap.size (.int .i64 0) (.string ⟨#[]⟩) (.int .i64 0) (.slice none 0 0)) := Box4.new _ _ _ _ _
  have ht0 := fun w' (h' : Rdr w' Q B v S s) => stakes_no hl (x := ⟨#[118, 97, 114]⟩) (l := wVar) (by decide) (by decide) n0 w' h'
  have ht1 := fun w' (h' : Rdr w' Q B v S s) => stakes_no hl (x := ⟨#[105, 102]⟩) (l := wIf) (by decide) (by decide) n1 w' h'
  have ht2 := fun w' (h' : Rdr w' Q B v S s) => stakes_no hl (x := ⟨#[119, 104, 105, 108, 101]⟩) (l := wWhile) (by decide) (by decide) n2 w' h'
  have ht3 := fun w' (h' : Rdr w' Q B v S s) => stakes_no hl (x := ⟨#[114, 101, 116, 117, 114, 110]⟩) (l := wReturn) (by decide) (by decide) n3 w' h'
  have ht4 := fun w' (h' : Rdr w' Q B v S s) => stakes_no hl (x := ⟨#[112, 114, 105, 110, 116]⟩) (l := wPrint) (by decide) (by decide) n4 w' h'
  have ht5 := fun w' (h' : Rdr w' Q B v S s) => stakes_no hl (x := ⟨#[102, 111, 114, 107]⟩) (l := wFork) (by decide) (by decide) n5 w' h'
  have ht6 := fun w' (h' : Rdr w' Q B v S s) => stakes_no hl (x := ⟨#[119, 97, 105, 116]⟩) (l := wWait) (by decide) (by decide) n6 w' h'
  have hbs : ∀ w', Rdr w' Q B v S s → Calls Tryz.prog 140 #[.pointer (some ⟨Q, 0, none⟩)] w' fun e w'' => e = .returned (.bool false) ∧ Below w'.heap.size w' w'' := fun w' h' => by have := sbegins_any Q B v S s w' h'; rw [hset] at this; exact this
  have hty := fun w' (h' : Rdr w' Q B v S s) => stakes_yes hl (x := ⟨#[115, 105, 103, 110, 97, 108]⟩) (l := wSignal) (by decide) (by decide) (by decide) (by decide) y w' h'
  have hr := scond_any Q B v S hl hnf s.step
  clear hp y hset n0 n1 n2 n3 n4 n5 n6
  rw [one_condS]
  unfold ReadsS at hr
  cases hq : condC S s.step with
  | error f =>
    rw [hq] at hr
    clear hq
    go_enter Tryz.func103, Tryz.ntmps103
    go_wp2_with (first | (go_at_call_of 99 (Value.string ⟨#[118, 97, 114]⟩); refine (ht0 _ HPA.out).mono ?_; rintro e wa ⟨rfl, hpa, hga'⟩; have hga := (World.grownBy_alloc w zeroNS (some Q)).trans hga'; have hXa := HX.out.grown hga' (by omega)) | (go_at_call 140; refine (hbs _ hpa).mono ?_; rintro e wb ⟨rfl, hbb'⟩; have hpb := hpa.below hbb'; have hgb := hga.trans (grown_below Q hbb'); have hXb := hXa.grown (grown_below Q hbb') (by omega)) | (go_at_call_of 99 (Value.string ⟨#[105, 102]⟩); refine (ht1 _ hpb).mono ?_; rintro e wc ⟨rfl, hpc, hgc'⟩; have hgc := hgb.trans hgc'; have hXc := hXb.grown hgc' (by omega)) | (go_at_call_of 99 (Value.string ⟨#[119, 104, 105, 108, 101]⟩); refine (ht2 _ hpc).mono ?_; rintro e wd ⟨rfl, hpd, hgd'⟩; have hgd := hgc.trans hgd'; have hXd := hXc.grown hgd' (by omega)) | (go_at_call_of 99 (Value.string ⟨#[114, 101, 116, 117, 114, 110]⟩); refine (ht3 _ hpd).mono ?_; rintro e we ⟨rfl, hpe, hge'⟩; have hge := hgd.trans hge'; have hXe := hXd.grown hge' (by omega)) | (go_at_call_of 99 (Value.string ⟨#[112, 114, 105, 110, 116]⟩); refine (ht4 _ hpe).mono ?_; rintro e wf ⟨rfl, hpf, hgf'⟩; have hgf := hge.trans hgf'; have hXf := hXe.grown hgf' (by omega)) | (go_at_call_of 99 (Value.string ⟨#[102, 111, 114, 107]⟩); refine (ht5 _ hpf).mono ?_; rintro e wg ⟨rfl, hpg, hgg'⟩; have hgg := hgf.trans hgg'; have hXg := hXf.grown hgg' (by omega)) | (go_at_call_of 99 (Value.string ⟨#[119, 97, 105, 116]⟩); refine (ht6 _ hpg).mono ?_; rintro e wh ⟨rfl, hph, hgh'⟩; have hgh := hgg.trans hgh'; have hXh := hXg.grown hgh' (by omega)) | (go_at_call_of 99 (Value.string ⟨#[115, 105, 103, 110, 97, 108]⟩); refine (hty _ hph).mono ?_; rintro e wy ⟨rfl, hpy, hgy'⟩; have hgy := hgh.trans hgy'; have hXy := hXh.grown hgy' (by omega); have hly := hXy.lt) | (go_at_call 142; refine (hr _ hpy).mono ?_; rintro e w2 ⟨rfl, hg2⟩))
    exact ⟨rfl, rfl, hgy.trans hg2⟩
  | ok z =>
    obtain ⟨k, s2⟩ := z
    rw [hq] at hr
    rw [then_ok]
    clear hq
    have hen := sended_any Q B (From (w.heap.size + 1)) v S hl s2 15 k
    cases hq : wantP S sSemi s2 with
    | error f =>
      rw [hq] at hen
      clear hq
      go_enter Tryz.func103, Tryz.ntmps103
      go_wp2_with (first | (go_at_call_of 99 (Value.string ⟨#[118, 97, 114]⟩); refine (ht0 _ HPA.out).mono ?_; rintro e wa ⟨rfl, hpa, hga'⟩; have hga := (World.grownBy_alloc w zeroNS (some Q)).trans hga'; have hXa := HX.out.grown hga' (by omega)) | (go_at_call 140; refine (hbs _ hpa).mono ?_; rintro e wb ⟨rfl, hbb'⟩; have hpb := hpa.below hbb'; have hgb := hga.trans (grown_below Q hbb'); have hXb := hXa.grown (grown_below Q hbb') (by omega)) | (go_at_call_of 99 (Value.string ⟨#[105, 102]⟩); refine (ht1 _ hpb).mono ?_; rintro e wc ⟨rfl, hpc, hgc'⟩; have hgc := hgb.trans hgc'; have hXc := hXb.grown hgc' (by omega)) | (go_at_call_of 99 (Value.string ⟨#[119, 104, 105, 108, 101]⟩); refine (ht2 _ hpc).mono ?_; rintro e wd ⟨rfl, hpd, hgd'⟩; have hgd := hgc.trans hgd'; have hXd := hXc.grown hgd' (by omega)) | (go_at_call_of 99 (Value.string ⟨#[114, 101, 116, 117, 114, 110]⟩); refine (ht3 _ hpd).mono ?_; rintro e we ⟨rfl, hpe, hge'⟩; have hge := hgd.trans hge'; have hXe := hXd.grown hge' (by omega)) | (go_at_call_of 99 (Value.string ⟨#[112, 114, 105, 110, 116]⟩); refine (ht4 _ hpe).mono ?_; rintro e wf ⟨rfl, hpf, hgf'⟩; have hgf := hge.trans hgf'; have hXf := hXe.grown hgf' (by omega)) | (go_at_call_of 99 (Value.string ⟨#[102, 111, 114, 107]⟩); refine (ht5 _ hpf).mono ?_; rintro e wg ⟨rfl, hpg, hgg'⟩; have hgg := hgf.trans hgg'; have hXg := hXf.grown hgg' (by omega)) | (go_at_call_of 99 (Value.string ⟨#[119, 97, 105, 116]⟩); refine (ht6 _ hpg).mono ?_; rintro e wh ⟨rfl, hph, hgh'⟩; have hgh := hgg.trans hgh'; have hXh := hXg.grown hgh' (by omega)) | (go_at_call_of 99 (Value.string ⟨#[115, 105, 103, 110, 97, 108]⟩); refine (hty _ hph).mono ?_; rintro e wy ⟨rfl, hpy, hgy'⟩; have hgy := hgh.trans hgy'; have hXy := hXh.grown hgy' (by omega); have hly := hXy.lt) | (go_at_call 142; refine (hr _ hpy).mono ?_; rintro e w2 ⟨u2, rfl, hv2, hp2, hg2⟩; obtain ⟨a, b, c, ad, ln, cp, hu⟩ := NodeV.any hv2; subst hu; have hlx := hXy.lt; have hX2 := hXy.grown hg2 (by omega); have hl2 := hX2.lt) | (go_at_call 143; refine (hen _ _ _ _ _ _ w2 (NodeV.mono hv2 (fun j hj _ => by have hj' : wy.heap.size ≤ j := hj; show w.heap.size + 1 ≤ j; omega)) (by show ¬ w.heap.size + 1 ≤ Q; omega) (fun j hj => by show w.heap.size + 1 ≤ j; omega) hp2).mono ?_; rintro e w3 ⟨rfl, hg3⟩))
      exact ⟨rfl, rfl, (hgy.trans hg2).trans hg3⟩
    | ok z =>
      obtain ⟨⟨⟩, s3⟩ := z
      rw [hq, then_ok] at hen
      rw [then_ok]
      clear hq
      go_enter Tryz.func103, Tryz.ntmps103
      go_wp2_with (first | (go_at_call_of 99 (Value.string ⟨#[118, 97, 114]⟩); refine (ht0 _ HPA.out).mono ?_; rintro e wa ⟨rfl, hpa, hga'⟩; have hga := (World.grownBy_alloc w zeroNS (some Q)).trans hga'; have hXa := HX.out.grown hga' (by omega)) | (go_at_call 140; refine (hbs _ hpa).mono ?_; rintro e wb ⟨rfl, hbb'⟩; have hpb := hpa.below hbb'; have hgb := hga.trans (grown_below Q hbb'); have hXb := hXa.grown (grown_below Q hbb') (by omega)) | (go_at_call_of 99 (Value.string ⟨#[105, 102]⟩); refine (ht1 _ hpb).mono ?_; rintro e wc ⟨rfl, hpc, hgc'⟩; have hgc := hgb.trans hgc'; have hXc := hXb.grown hgc' (by omega)) | (go_at_call_of 99 (Value.string ⟨#[119, 104, 105, 108, 101]⟩); refine (ht2 _ hpc).mono ?_; rintro e wd ⟨rfl, hpd, hgd'⟩; have hgd := hgc.trans hgd'; have hXd := hXc.grown hgd' (by omega)) | (go_at_call_of 99 (Value.string ⟨#[114, 101, 116, 117, 114, 110]⟩); refine (ht3 _ hpd).mono ?_; rintro e we ⟨rfl, hpe, hge'⟩; have hge := hgd.trans hge'; have hXe := hXd.grown hge' (by omega)) | (go_at_call_of 99 (Value.string ⟨#[112, 114, 105, 110, 116]⟩); refine (ht4 _ hpe).mono ?_; rintro e wf ⟨rfl, hpf, hgf'⟩; have hgf := hge.trans hgf'; have hXf := hXe.grown hgf' (by omega)) | (go_at_call_of 99 (Value.string ⟨#[102, 111, 114, 107]⟩); refine (ht5 _ hpf).mono ?_; rintro e wg ⟨rfl, hpg, hgg'⟩; have hgg := hgf.trans hgg'; have hXg := hXf.grown hgg' (by omega)) | (go_at_call_of 99 (Value.string ⟨#[119, 97, 105, 116]⟩); refine (ht6 _ hpg).mono ?_; rintro e wh ⟨rfl, hph, hgh'⟩; have hgh := hgg.trans hgh'; have hXh := hXg.grown hgh' (by omega)) | (go_at_call_of 99 (Value.string ⟨#[115, 105, 103, 110, 97, 108]⟩); refine (hty _ hph).mono ?_; rintro e wy ⟨rfl, hpy, hgy'⟩; have hgy := hgh.trans hgy'; have hXy := hXh.grown hgy' (by omega); have hly := hXy.lt) | (go_at_call 142; refine (hr _ hpy).mono ?_; rintro e w2 ⟨u2, rfl, hv2, hp2, hg2⟩; obtain ⟨a, b, c, ad, ln, cp, hu⟩ := NodeV.any hv2; subst hu; have hlx := hXy.lt; have hX2 := hXy.grown hg2 (by omega); have hl2 := hX2.lt) | (go_at_call 143; refine (hen _ _ _ _ _ _ w2 (NodeV.mono hv2 (fun j hj _ => by have hj' : wy.heap.size ≤ j := hj; show w.heap.size + 1 ≤ j; omega)) (by show ¬ w.heap.size + 1 ≤ Q; omega) (fun j hj => by show w.heap.size + 1 ≤ j; omega) hp2).mono ?_; rintro e w3 ⟨u3, rfl, hv3, hp3, hg3⟩; obtain ⟨a3, b3, c3, ad3, ln3, cp3, hu3⟩ := NodeV.any hv3; subst hu3; obtain ⟨⟨x0, x1, x2, x3⟩, f0, f1, f2, f3⟩ := (hX2.grown hg3 (by omega)).facts))
      refine bodyPost_ret (v := .agg #[.int .i64 a3, .string b3, .int .i64 c3, .slice ad3 ln3 cp3]) (by simp [results, Tryz.results103, go_sem, x0, x1, x2, x3]) rfl ?_
      exact out_box hv3 hp3 ((hgy.trans hg2).trans hg3) hB
set_option maxRecDepth 20000 in
set_option maxHeartbeats 16000000 in
theorem sstmt_do (Q B : Nat) (v : Value) (S : Src9) (hl : Looks S) (hnf : NumFit S) (s : PS) (n0 : seesB S wVar s = false) (n1 : seesB S wIf s = false) (n2 : seesB S wWhile s = false) (n3 : seesB S wReturn s = false) (n4 : seesB S wPrint s = false) (n5 : seesB S wFork s = false) (n6 : seesB S wWait s = false) (n7 : seesB S wSignal s = false) (n8 : seesB S wSwap s = false) (hset : setB S s = false) (w : World) (hp : Rdr w Q B v S s) :
    Calls Tryz.prog 103 #[.pointer (some ⟨Q, 0, none⟩)] w fun e w' => OutS Q B v S w (NodeG w) ((exprC S s).then fun k s => (wantP S sSemi s).then fun _ s => nodeP 17 [] 0 [k] s) e w' := by
  have hB := hp.size
  have hqb := hp.qb
  have HPA : Hid (Rdr (w.alloc zeroNS) Q B v S s) := hp.below ((Below.refl _ w).alloc (Nat.le_refl _) _)
  have HX : Hid (Box4 (w.alloc zeroNS) w.heap.size (.int .i64 0) (.string ⟨#[]⟩) (.int .i64 0) (.slice none 0 0)) := Box4.new _ _ _ _ _
  have ht0 := fun w' (h' : Rdr w' Q B v S s) => stakes_no hl (x := ⟨#[118, 97, 114]⟩) (l := wVar) (by decide) (by decide) n0 w' h'
  have ht1 := fun w' (h' : Rdr w' Q B v S s) => stakes_no hl (x := ⟨#[105, 102]⟩) (l := wIf) (by decide) (by decide) n1 w' h'
  have ht2 := fun w' (h' : Rdr w' Q B v S s) => stakes_no hl (x := ⟨#[119, 104, 105, 108, 101]⟩) (l := wWhile) (by decide) (by decide) n2 w' h'
  have ht3 := fun w' (h' : Rdr w' Q B v S s) => stakes_no hl (x := ⟨#[114, 101, 116, 117, 114, 110]⟩) (l := wReturn) (by decide) (by decide) n3 w' h'
  have ht4 := fun w' (h' : Rdr w' Q B v S s) => stakes_no hl (x := ⟨#[112, 114, 105, 110, 116]⟩) (l := wPrint) (by decide) (by decide) n4 w' h'
  have ht5 := fun w' (h' : Rdr w' Q B v S s) => stakes_no hl (x := ⟨#[102, 111, 114, 107]⟩) (l := wFork) (by decide) (by decide) n5 w' h'
  have ht6 := fun w' (h' : Rdr w' Q B v S s) => stakes_no hl (x := ⟨#[119, 97, 105, 116]⟩) (l := wWait) (by decide) (by decide) n6 w' h'
  have ht7 := fun w' (h' : Rdr w' Q B v S s) => stakes_no hl (x := ⟨#[115, 105, 103, 110, 97, 108]⟩) (l := wSignal) (by decide) (by decide) n7 w' h'
  have ht8 := fun w' (h' : Rdr w' Q B v S s) => stakes_no hl (x := ⟨#[115, 119, 97, 112]⟩) (l := wSwap) (by decide) (by decide) n8 w' h'
  have hbs : ∀ w', Rdr w' Q B v S s → Calls Tryz.prog 140 #[.pointer (some ⟨Q, 0, none⟩)] w' fun e w'' => e = .returned (.bool false) ∧ Below w'.heap.size w' w'' := fun w' h' => by have := sbegins_any Q B v S s w' h'; rw [hset] at this; exact this
  have hr := sexpr_any Q B v S hl hnf s
  clear hp hset n0 n1 n2 n3 n4 n5 n6 n7 n8
  unfold ReadsS at hr
  cases hq : exprC S s with
  | error f =>
    rw [hq] at hr
    clear hq
    go_enter Tryz.func103, Tryz.ntmps103
    go_wp2_with (first | (go_at_call_of 99 (Value.string ⟨#[118, 97, 114]⟩); refine (ht0 _ HPA.out).mono ?_; rintro e wa ⟨rfl, hpa, hga'⟩; have hga := (World.grownBy_alloc w zeroNS (some Q)).trans hga'; have hXa := HX.out.grown hga' (by omega)) | (go_at_call 140; refine (hbs _ hpa).mono ?_; rintro e wb ⟨rfl, hbb'⟩; have hpb := hpa.below hbb'; have hgb := hga.trans (grown_below Q hbb'); have hXb := hXa.grown (grown_below Q hbb') (by omega)) | (go_at_call_of 99 (Value.string ⟨#[105, 102]⟩); refine (ht1 _ hpb).mono ?_; rintro e wc ⟨rfl, hpc, hgc'⟩; have hgc := hgb.trans hgc'; have hXc := hXb.grown hgc' (by omega)) | (go_at_call_of 99 (Value.string ⟨#[119, 104, 105, 108, 101]⟩); refine (ht2 _ hpc).mono ?_; rintro e wd ⟨rfl, hpd, hgd'⟩; have hgd := hgc.trans hgd'; have hXd := hXc.grown hgd' (by omega)) | (go_at_call_of 99 (Value.string ⟨#[114, 101, 116, 117, 114, 110]⟩); refine (ht3 _ hpd).mono ?_; rintro e we ⟨rfl, hpe, hge'⟩; have hge := hgd.trans hge'; have hXe := hXd.grown hge' (by omega)) | (go_at_call_of 99 (Value.string ⟨#[112, 114, 105, 110, 116]⟩); refine (ht4 _ hpe).mono ?_; rintro e wf ⟨rfl, hpf, hgf'⟩; have hgf := hge.trans hgf'; have hXf := hXe.grown hgf' (by omega)) | (go_at_call_of 99 (Value.string ⟨#[102, 111, 114, 107]⟩); refine (ht5 _ hpf).mono ?_; rintro e wg ⟨rfl, hpg, hgg'⟩; have hgg := hgf.trans hgg'; have hXg := hXf.grown hgg' (by omega)) | (go_at_call_of 99 (Value.string ⟨#[119, 97, 105, 116]⟩); refine (ht6 _ hpg).mono ?_; rintro e wh ⟨rfl, hph, hgh'⟩; have hgh := hgg.trans hgh'; have hXh := hXg.grown hgh' (by omega)) | (go_at_call_of 99 (Value.string ⟨#[115, 105, 103, 110, 97, 108]⟩); refine (ht7 _ hph).mono ?_; rintro e wi ⟨rfl, hpi, hgi'⟩; have hgi := hgh.trans hgi'; have hXi := hXh.grown hgi' (by omega)) | (go_at_call_of 99 (Value.string ⟨#[115, 119, 97, 112]⟩); refine (ht8 _ hpi).mono ?_; rintro e wj ⟨rfl, hpj, hgj'⟩; have hgj := hgi.trans hgj'; have hXj := hXi.grown hgj' (by omega)) | (go_at_call 144; refine (hr _ hpj).mono ?_; rintro e w2 ⟨rfl, hg2⟩))
    exact ⟨rfl, rfl, hgj.trans hg2⟩
  | ok z =>
    obtain ⟨k, s2⟩ := z
    rw [hq] at hr
    rw [then_ok]
    clear hq
    have hen := sended_any Q B (From (w.heap.size + 1)) v S hl s2 17 k
    cases hq : wantP S sSemi s2 with
    | error f =>
      rw [hq] at hen
      clear hq
      go_enter Tryz.func103, Tryz.ntmps103
      go_wp2_with (first | (go_at_call_of 99 (Value.string ⟨#[118, 97, 114]⟩); refine (ht0 _ HPA.out).mono ?_; rintro e wa ⟨rfl, hpa, hga'⟩; have hga := (World.grownBy_alloc w zeroNS (some Q)).trans hga'; have hXa := HX.out.grown hga' (by omega)) | (go_at_call 140; refine (hbs _ hpa).mono ?_; rintro e wb ⟨rfl, hbb'⟩; have hpb := hpa.below hbb'; have hgb := hga.trans (grown_below Q hbb'); have hXb := hXa.grown (grown_below Q hbb') (by omega)) | (go_at_call_of 99 (Value.string ⟨#[105, 102]⟩); refine (ht1 _ hpb).mono ?_; rintro e wc ⟨rfl, hpc, hgc'⟩; have hgc := hgb.trans hgc'; have hXc := hXb.grown hgc' (by omega)) | (go_at_call_of 99 (Value.string ⟨#[119, 104, 105, 108, 101]⟩); refine (ht2 _ hpc).mono ?_; rintro e wd ⟨rfl, hpd, hgd'⟩; have hgd := hgc.trans hgd'; have hXd := hXc.grown hgd' (by omega)) | (go_at_call_of 99 (Value.string ⟨#[114, 101, 116, 117, 114, 110]⟩); refine (ht3 _ hpd).mono ?_; rintro e we ⟨rfl, hpe, hge'⟩; have hge := hgd.trans hge'; have hXe := hXd.grown hge' (by omega)) | (go_at_call_of 99 (Value.string ⟨#[112, 114, 105, 110, 116]⟩); refine (ht4 _ hpe).mono ?_; rintro e wf ⟨rfl, hpf, hgf'⟩; have hgf := hge.trans hgf'; have hXf := hXe.grown hgf' (by omega)) | (go_at_call_of 99 (Value.string ⟨#[102, 111, 114, 107]⟩); refine (ht5 _ hpf).mono ?_; rintro e wg ⟨rfl, hpg, hgg'⟩; have hgg := hgf.trans hgg'; have hXg := hXf.grown hgg' (by omega)) | (go_at_call_of 99 (Value.string ⟨#[119, 97, 105, 116]⟩); refine (ht6 _ hpg).mono ?_; rintro e wh ⟨rfl, hph, hgh'⟩; have hgh := hgg.trans hgh'; have hXh := hXg.grown hgh' (by omega)) | (go_at_call_of 99 (Value.string ⟨#[115, 105, 103, 110, 97, 108]⟩); refine (ht7 _ hph).mono ?_; rintro e wi ⟨rfl, hpi, hgi'⟩; have hgi := hgh.trans hgi'; have hXi := hXh.grown hgi' (by omega)) | (go_at_call_of 99 (Value.string ⟨#[115, 119, 97, 112]⟩); refine (ht8 _ hpi).mono ?_; rintro e wj ⟨rfl, hpj, hgj'⟩; have hgj := hgi.trans hgj'; have hXj := hXi.grown hgj' (by omega)) | (go_at_call 144; refine (hr _ hpj).mono ?_; rintro e w2 ⟨u2, rfl, hv2, hp2, hg2⟩; obtain ⟨a, b, c, ad, ln, cp, hu⟩ := NodeV.any hv2; subst hu; have hlx := hXj.lt; have hX2 := hXj.grown hg2 (by omega); have hl2 := hX2.lt) | (go_at_call 143; refine (hen _ _ _ _ _ _ w2 (NodeV.mono hv2 (fun j hj _ => by have hj' : wj.heap.size ≤ j := hj; show w.heap.size + 1 ≤ j; omega)) (by show ¬ w.heap.size + 1 ≤ Q; omega) (fun j hj => by show w.heap.size + 1 ≤ j; omega) hp2).mono ?_; rintro e w3 ⟨rfl, hg3⟩))
      exact ⟨rfl, rfl, (hgj.trans hg2).trans hg3⟩
    | ok z =>
      obtain ⟨⟨⟩, s3⟩ := z
      rw [hq, then_ok] at hen
      rw [then_ok]
      clear hq
      go_enter Tryz.func103, Tryz.ntmps103
      go_wp2_with (first | (go_at_call_of 99 (Value.string ⟨#[118, 97, 114]⟩); refine (ht0 _ HPA.out).mono ?_; rintro e wa ⟨rfl, hpa, hga'⟩; have hga := (World.grownBy_alloc w zeroNS (some Q)).trans hga'; have hXa := HX.out.grown hga' (by omega)) | (go_at_call 140; refine (hbs _ hpa).mono ?_; rintro e wb ⟨rfl, hbb'⟩; have hpb := hpa.below hbb'; have hgb := hga.trans (grown_below Q hbb'); have hXb := hXa.grown (grown_below Q hbb') (by omega)) | (go_at_call_of 99 (Value.string ⟨#[105, 102]⟩); refine (ht1 _ hpb).mono ?_; rintro e wc ⟨rfl, hpc, hgc'⟩; have hgc := hgb.trans hgc'; have hXc := hXb.grown hgc' (by omega)) | (go_at_call_of 99 (Value.string ⟨#[119, 104, 105, 108, 101]⟩); refine (ht2 _ hpc).mono ?_; rintro e wd ⟨rfl, hpd, hgd'⟩; have hgd := hgc.trans hgd'; have hXd := hXc.grown hgd' (by omega)) | (go_at_call_of 99 (Value.string ⟨#[114, 101, 116, 117, 114, 110]⟩); refine (ht3 _ hpd).mono ?_; rintro e we ⟨rfl, hpe, hge'⟩; have hge := hgd.trans hge'; have hXe := hXd.grown hge' (by omega)) | (go_at_call_of 99 (Value.string ⟨#[112, 114, 105, 110, 116]⟩); refine (ht4 _ hpe).mono ?_; rintro e wf ⟨rfl, hpf, hgf'⟩; have hgf := hge.trans hgf'; have hXf := hXe.grown hgf' (by omega)) | (go_at_call_of 99 (Value.string ⟨#[102, 111, 114, 107]⟩); refine (ht5 _ hpf).mono ?_; rintro e wg ⟨rfl, hpg, hgg'⟩; have hgg := hgf.trans hgg'; have hXg := hXf.grown hgg' (by omega)) | (go_at_call_of 99 (Value.string ⟨#[119, 97, 105, 116]⟩); refine (ht6 _ hpg).mono ?_; rintro e wh ⟨rfl, hph, hgh'⟩; have hgh := hgg.trans hgh'; have hXh := hXg.grown hgh' (by omega)) | (go_at_call_of 99 (Value.string ⟨#[115, 105, 103, 110, 97, 108]⟩); refine (ht7 _ hph).mono ?_; rintro e wi ⟨rfl, hpi, hgi'⟩; have hgi := hgh.trans hgi'; have hXi := hXh.grown hgi' (by omega)) | (go_at_call_of 99 (Value.string ⟨#[115, 119, 97, 112]⟩); refine (ht8 _ hpi).mono ?_; rintro e wj ⟨rfl, hpj, hgj'⟩; have hgj := hgi.trans hgj'; have hXj := hXi.grown hgj' (by omega)) | (go_at_call 144; refine (hr _ hpj).mono ?_; rintro e w2 ⟨u2, rfl, hv2, hp2, hg2⟩; obtain ⟨a, b, c, ad, ln, cp, hu⟩ := NodeV.any hv2; subst hu; have hlx := hXj.lt; have hX2 := hXj.grown hg2 (by omega); have hl2 := hX2.lt) | (go_at_call 143; refine (hen _ _ _ _ _ _ w2 (NodeV.mono hv2 (fun j hj _ => by have hj' : wj.heap.size ≤ j := hj; show w.heap.size + 1 ≤ j; omega)) (by show ¬ w.heap.size + 1 ≤ Q; omega) (fun j hj => by show w.heap.size + 1 ≤ j; omega) hp2).mono ?_; rintro e w3 ⟨u3, rfl, hv3, hp3, hg3⟩; obtain ⟨a3, b3, c3, ad3, ln3, cp3, hu3⟩ := NodeV.any hv3; subst hu3; obtain ⟨⟨x0, x1, x2, x3⟩, f0, f1, f2, f3⟩ := (hX2.grown hg3 (by omega)).facts))
      refine bodyPost_ret (v := .agg #[.int .i64 a3, .string b3, .int .i64 c3, .slice ad3 ln3 cp3]) (by simp [results, Tryz.results103, go_sem, x0, x1, x2, x3]) rfl ?_
      exact out_box hv3 hp3 ((hgj.trans hg2).trans hg3) hB
set_option maxRecDepth 20000 in
set_option maxHeartbeats 16000000 in
theorem sstmt_swap (Q B : Nat) (v : Value) (S : Src9) (hl : Looks S) (hnf : NumFit S) (s : PS) (n0 : seesB S wVar s = false) (n1 : seesB S wIf s = false) (n2 : seesB S wWhile s = false) (n3 : seesB S wReturn s = false) (n4 : seesB S wPrint s = false) (n5 : seesB S wFork s = false) (n6 : seesB S wWait s = false) (n7 : seesB S wSignal s = false) (hset : setB S s = false) (y : seesB S wSwap s = true) (w : World) (hp : Rdr w Q B v S s) :
    Calls Tryz.prog 103 #[.pointer (some ⟨Q, 0, none⟩)] w fun e w' => OutS Q B v S w (NodeG w) (twoC S 16 s.step) e w' := by
  have hB := hp.size
  have hqb := hp.qb
  have HPA : Hid (Rdr (w.alloc zeroNS) Q B v S s) := hp.below ((Below.refl _ w).alloc (Nat.le_refl _) _)
  have HX : Hid (Box4 (w.alloc zeroNS) w.heap.size (.int .i64 0) (.string ⟨#[]⟩) (.int .i64 0) (.slice none 0 0)) := Box4.new _ _ _ _ _
  have ht0 := fun w' (h' : Rdr w' Q B v S s) => stakes_no hl (x := ⟨#[118, 97, 114]⟩) (l := wVar) (by decide) (by decide) n0 w' h'
  have ht1 := fun w' (h' : Rdr w' Q B v S s) => stakes_no hl (x := ⟨#[105, 102]⟩) (l := wIf) (by decide) (by decide) n1 w' h'
  have ht2 := fun w' (h' : Rdr w' Q B v S s) => stakes_no hl (x := ⟨#[119, 104, 105, 108, 101]⟩) (l := wWhile) (by decide) (by decide) n2 w' h'
  have ht3 := fun w' (h' : Rdr w' Q B v S s) => stakes_no hl (x := ⟨#[114, 101, 116, 117, 114, 110]⟩) (l := wReturn) (by decide) (by decide) n3 w' h'
  have ht4 := fun w' (h' : Rdr w' Q B v S s) => stakes_no hl (x := ⟨#[112, 114, 105, 110, 116]⟩) (l := wPrint) (by decide) (by decide) n4 w' h'
  have ht5 := fun w' (h' : Rdr w' Q B v S s) => stakes_no hl (x := ⟨#[102, 111, 114, 107]⟩) (l := wFork) (by decide) (by decide) n5 w' h'
  have ht6 := fun w' (h' : Rdr w' Q B v S s) => stakes_no hl (x := ⟨#[119, 97, 105, 116]⟩) (l := wWait) (by decide) (by decide) n6 w' h'
  have ht7 := fun w' (h' : Rdr w' Q B v S s) => stakes_no hl (x := ⟨#[115, 105, 103, 110, 97, 108]⟩) (l := wSignal) (by decide) (by decide) n7 w' h'
  have hbs : ∀ w', Rdr w' Q B v S s → Calls Tryz.prog 140 #[.pointer (some ⟨Q, 0, none⟩)] w' fun e w'' => e = .returned (.bool false) ∧ Below w'.heap.size w' w'' := fun w' h' => by have := sbegins_any Q B v S s w' h'; rw [hset] at this; exact this
  have hty := fun w' (h' : Rdr w' Q B v S s) => stakes_yes hl (x := ⟨#[115, 119, 97, 112]⟩) (l := wSwap) (by decide) (by decide) (by decide) (by decide) y w' h'
  have hse := sexchange_any Q B v S hl hnf s.step
  unfold ReadsS at hse
  clear hp y hset n0 n1 n2 n3 n4 n5 n6 n7
  cases hq : twoC S 16 s.step with
  | error f =>
    rw [hq] at hse
    clear hq
    go_enter Tryz.func103, Tryz.ntmps103
    go_wp2_with (first | (go_at_call_of 99 (Value.string ⟨#[118, 97, 114]⟩); refine (ht0 _ HPA.out).mono ?_; rintro e wa ⟨rfl, hpa, hga'⟩; have hga := (World.grownBy_alloc w zeroNS (some Q)).trans hga'; have hXa := HX.out.grown hga' (by omega)) | (go_at_call 140; refine (hbs _ hpa).mono ?_; rintro e wb ⟨rfl, hbb'⟩; have hpb := hpa.below hbb'; have hgb := hga.trans (grown_below Q hbb'); have hXb := hXa.grown (grown_below Q hbb') (by omega)) | (go_at_call_of 99 (Value.string ⟨#[105, 102]⟩); refine (ht1 _ hpb).mono ?_; rintro e wc ⟨rfl, hpc, hgc'⟩; have hgc := hgb.trans hgc'; have hXc := hXb.grown hgc' (by omega)) | (go_at_call_of 99 (Value.string ⟨#[119, 104, 105, 108, 101]⟩); refine (ht2 _ hpc).mono ?_; rintro e wd ⟨rfl, hpd, hgd'⟩; have hgd := hgc.trans hgd'; have hXd := hXc.grown hgd' (by omega)) | (go_at_call_of 99 (Value.string ⟨#[114, 101, 116, 117, 114, 110]⟩); refine (ht3 _ hpd).mono ?_; rintro e we ⟨rfl, hpe, hge'⟩; have hge := hgd.trans hge'; have hXe := hXd.grown hge' (by omega)) | (go_at_call_of 99 (Value.string ⟨#[112, 114, 105, 110, 116]⟩); refine (ht4 _ hpe).mono ?_; rintro e wf ⟨rfl, hpf, hgf'⟩; have hgf := hge.trans hgf'; have hXf := hXe.grown hgf' (by omega)) | (go_at_call_of 99 (Value.string ⟨#[102, 111, 114, 107]⟩); refine (ht5 _ hpf).mono ?_; rintro e wg ⟨rfl, hpg, hgg'⟩; have hgg := hgf.trans hgg'; have hXg := hXf.grown hgg' (by omega)) | (go_at_call_of 99 (Value.string ⟨#[119, 97, 105, 116]⟩); refine (ht6 _ hpg).mono ?_; rintro e wh ⟨rfl, hph, hgh'⟩; have hgh := hgg.trans hgh'; have hXh := hXg.grown hgh' (by omega)) | (go_at_call_of 99 (Value.string ⟨#[115, 105, 103, 110, 97, 108]⟩); refine (ht7 _ hph).mono ?_; rintro e wi ⟨rfl, hpi, hgi'⟩; have hgi := hgh.trans hgi'; have hXi := hXh.grown hgi' (by omega)) | (go_at_call_of 99 (Value.string ⟨#[115, 119, 97, 112]⟩); refine (hty _ hpi).mono ?_; rintro e wy ⟨rfl, hpy, hgy'⟩; have hgy := hgi.trans hgy'; have hXy := hXi.grown hgy' (by omega); have hly := hXy.lt) | (go_at_call 145; refine (hse _ hpy).mono ?_; rintro e w2 ⟨rfl, hg2⟩))
    exact ⟨rfl, rfl, hgy.trans hg2⟩
  | ok z =>
    obtain ⟨k, s2⟩ := z
    rw [hq] at hse
    clear hq
    go_enter Tryz.func103, Tryz.ntmps103
    go_wp2_with (first | (go_at_call_of 99 (Value.string ⟨#[118, 97, 114]⟩); refine (ht0 _ HPA.out).mono ?_; rintro e wa ⟨rfl, hpa, hga'⟩; have hga := (World.grownBy_alloc w zeroNS (some Q)).trans hga'; have hXa := HX.out.grown hga' (by omega)) | (go_at_call 140; refine (hbs _ hpa).mono ?_; rintro e wb ⟨rfl, hbb'⟩; have hpb := hpa.below hbb'; have hgb := hga.trans (grown_below Q hbb'); have hXb := hXa.grown (grown_below Q hbb') (by omega)) | (go_at_call_of 99 (Value.string ⟨#[105, 102]⟩); refine (ht1 _ hpb).mono ?_; rintro e wc ⟨rfl, hpc, hgc'⟩; have hgc := hgb.trans hgc'; have hXc := hXb.grown hgc' (by omega)) | (go_at_call_of 99 (Value.string ⟨#[119, 104, 105, 108, 101]⟩); refine (ht2 _ hpc).mono ?_; rintro e wd ⟨rfl, hpd, hgd'⟩; have hgd := hgc.trans hgd'; have hXd := hXc.grown hgd' (by omega)) | (go_at_call_of 99 (Value.string ⟨#[114, 101, 116, 117, 114, 110]⟩); refine (ht3 _ hpd).mono ?_; rintro e we ⟨rfl, hpe, hge'⟩; have hge := hgd.trans hge'; have hXe := hXd.grown hge' (by omega)) | (go_at_call_of 99 (Value.string ⟨#[112, 114, 105, 110, 116]⟩); refine (ht4 _ hpe).mono ?_; rintro e wf ⟨rfl, hpf, hgf'⟩; have hgf := hge.trans hgf'; have hXf := hXe.grown hgf' (by omega)) | (go_at_call_of 99 (Value.string ⟨#[102, 111, 114, 107]⟩); refine (ht5 _ hpf).mono ?_; rintro e wg ⟨rfl, hpg, hgg'⟩; have hgg := hgf.trans hgg'; have hXg := hXf.grown hgg' (by omega)) | (go_at_call_of 99 (Value.string ⟨#[119, 97, 105, 116]⟩); refine (ht6 _ hpg).mono ?_; rintro e wh ⟨rfl, hph, hgh'⟩; have hgh := hgg.trans hgh'; have hXh := hXg.grown hgh' (by omega)) | (go_at_call_of 99 (Value.string ⟨#[115, 105, 103, 110, 97, 108]⟩); refine (ht7 _ hph).mono ?_; rintro e wi ⟨rfl, hpi, hgi'⟩; have hgi := hgh.trans hgi'; have hXi := hXh.grown hgi' (by omega)) | (go_at_call_of 99 (Value.string ⟨#[115, 119, 97, 112]⟩); refine (hty _ hpi).mono ?_; rintro e wy ⟨rfl, hpy, hgy'⟩; have hgy := hgi.trans hgy'; have hXy := hXi.grown hgy' (by omega); have hly := hXy.lt) | (go_at_call 145; refine (hse _ hpy).mono ?_; rintro e w2 ⟨u2, rfl, hv2, hp2, hg2⟩; obtain ⟨a, b, c, ad, ln, cp, hu⟩ := NodeV.any hv2; subst hu; have hlx := hXy.lt; obtain ⟨⟨x0, x1, x2, x3⟩, f0, f1, f2, f3⟩ := (hXy.grown hg2 (by omega)).facts))
    refine bodyPost_ret (v := .agg #[.int .i64 a, .string b, .int .i64 c, .slice ad ln cp]) (by simp [results, Tryz.results103, go_sem, x0, x1, x2, x3]) rfl ?_
    exact out_box (NodeV.mono hv2 (fun j hj _ => by have hj' : wy.heap.size ≤ j := hj; show w.heap.size + 1 ≤ j; omega)) hp2 (hgy.trans hg2) hB
set_option maxRecDepth 20000 in
set_option maxHeartbeats 16000000 in
theorem sstmt_fork (Q B : Nat) (v : Value) (S : Src9) (hl : Looks S) (s : PS) (n0 : seesB S wVar s = false) (n1 : seesB S wIf s = false) (n2 : seesB S wWhile s = false) (n3 : seesB S wReturn s = false) (n4 : seesB S wPrint s = false) (hset : setB S s = false) (y : seesB S wFork s = true) (hbk : ReadsS 67 (blockC S) Q B v S s.step) (w : World) (hp : Rdr w Q B v S s) :
    Calls Tryz.prog 103 #[.pointer (some ⟨Q, 0, none⟩)] w fun e w' => OutS Q B v S w (NodeG w) ((blockC S s.step).then fun b s => nodeP 13 [] 0 [b] s) e w' := by
  have hB := hp.size
  have hqb := hp.qb
  have HPA : Hid (Rdr (w.alloc zeroNS) Q B v S s) := hp.below ((Below.refl _ w).alloc (Nat.le_refl _) _)
  have HX : Hid (Box4 (w.alloc zeroNS) w.heap.size (.int .i64 0) (.string ⟨#[]⟩) (.int .i64 0) (.slice none 0 0)) := Box4.new _ _ _ _ _
  have ht0 := fun w' (h' : Rdr w' Q B v S s) => stakes_no hl (x := ⟨#[118, 97, 114]⟩) (l := wVar) (by decide) (by decide) n0 w' h'
  have ht1 := fun w' (h' : Rdr w' Q B v S s) => stakes_no hl (x := ⟨#[105, 102]⟩) (l := wIf) (by decide) (by decide) n1 w' h'
  have ht2 := fun w' (h' : Rdr w' Q B v S s) => stakes_no hl (x := ⟨#[119, 104, 105, 108, 101]⟩) (l := wWhile) (by decide) (by decide) n2 w' h'
  have ht3 := fun w' (h' : Rdr w' Q B v S s) => stakes_no hl (x := ⟨#[114, 101, 116, 117, 114, 110]⟩) (l := wReturn) (by decide) (by decide) n3 w' h'
  have ht4 := fun w' (h' : Rdr w' Q B v S s) => stakes_no hl (x := ⟨#[112, 114, 105, 110, 116]⟩) (l := wPrint) (by decide) (by decide) n4 w' h'
  have hbs : ∀ w', Rdr w' Q B v S s → Calls Tryz.prog 140 #[.pointer (some ⟨Q, 0, none⟩)] w' fun e w'' => e = .returned (.bool false) ∧ Below w'.heap.size w' w'' := fun w' h' => by have := sbegins_any Q B v S s w' h'; rw [hset] at this; exact this
  have hty := fun w' (h' : Rdr w' Q B v S s) => stakes_yes hl (x := ⟨#[102, 111, 114, 107]⟩) (l := wFork) (by decide) (by decide) (by decide) (by decide) y w' h'
  unfold ReadsS at hbk
  clear hp y hset n0 n1 n2 n3 n4
  cases hq : blockC S s.step with
  | error f =>
    rw [hq] at hbk
    clear hq
    go_enter Tryz.func103, Tryz.ntmps103
    go_wp2_with (first | (go_at_call_of 99 (Value.string ⟨#[118, 97, 114]⟩); refine (ht0 _ HPA.out).mono ?_; rintro e wa ⟨rfl, hpa, hga'⟩; have hga := (World.grownBy_alloc w zeroNS (some Q)).trans hga'; have hXa := HX.out.grown hga' (by omega)) | (go_at_call 140; refine (hbs _ hpa).mono ?_; rintro e wb ⟨rfl, hbb'⟩; have hpb := hpa.below hbb'; have hgb := hga.trans (grown_below Q hbb'); have hXb := hXa.grown (grown_below Q hbb') (by omega)) | (go_at_call_of 99 (Value.string ⟨#[105, 102]⟩); refine (ht1 _ hpb).mono ?_; rintro e wc ⟨rfl, hpc, hgc'⟩; have hgc := hgb.trans hgc'; have hXc := hXb.grown hgc' (by omega)) | (go_at_call_of 99 (Value.string ⟨#[119, 104, 105, 108, 101]⟩); refine (ht2 _ hpc).mono ?_; rintro e wd ⟨rfl, hpd, hgd'⟩; have hgd := hgc.trans hgd'; have hXd := hXc.grown hgd' (by omega)) | (go_at_call_of 99 (Value.string ⟨#[114, 101, 116, 117, 114, 110]⟩); refine (ht3 _ hpd).mono ?_; rintro e we ⟨rfl, hpe, hge'⟩; have hge := hgd.trans hge'; have hXe := hXd.grown hge' (by omega)) | (go_at_call_of 99 (Value.string ⟨#[112, 114, 105, 110, 116]⟩); refine (ht4 _ hpe).mono ?_; rintro e wf ⟨rfl, hpf, hgf'⟩; have hgf := hge.trans hgf'; have hXf := hXe.grown hgf' (by omega)) | (go_at_call_of 99 (Value.string ⟨#[102, 111, 114, 107]⟩); refine (hty _ hpf).mono ?_; rintro e wy ⟨rfl, hpy, hgy'⟩; have hgy := hgf.trans hgy'; have hXy := hXf.grown hgy' (by omega); have hly := hXy.lt) | (go_at_call 67; refine (hbk _ hpy).mono ?_; rintro e w2 ⟨rfl, hg2⟩))
    exact ⟨rfl, rfl, hgy.trans hg2⟩
  | ok z =>
    obtain ⟨k, s2⟩ := z
    rw [hq] at hbk
    rw [then_ok]
    clear hq
    go_enter Tryz.func103, Tryz.ntmps103
    go_wp2_with (first | (go_at_call_of 99 (Value.string ⟨#[118, 97, 114]⟩); refine (ht0 _ HPA.out).mono ?_; rintro e wa ⟨rfl, hpa, hga'⟩; have hga := (World.grownBy_alloc w zeroNS (some Q)).trans hga'; have hXa := HX.out.grown hga' (by omega)) | (go_at_call 140; refine (hbs _ hpa).mono ?_; rintro e wb ⟨rfl, hbb'⟩; have hpb := hpa.below hbb'; have hgb := hga.trans (grown_below Q hbb'); have hXb := hXa.grown (grown_below Q hbb') (by omega)) | (go_at_call_of 99 (Value.string ⟨#[105, 102]⟩); refine (ht1 _ hpb).mono ?_; rintro e wc ⟨rfl, hpc, hgc'⟩; have hgc := hgb.trans hgc'; have hXc := hXb.grown hgc' (by omega)) | (go_at_call_of 99 (Value.string ⟨#[119, 104, 105, 108, 101]⟩); refine (ht2 _ hpc).mono ?_; rintro e wd ⟨rfl, hpd, hgd'⟩; have hgd := hgc.trans hgd'; have hXd := hXc.grown hgd' (by omega)) | (go_at_call_of 99 (Value.string ⟨#[114, 101, 116, 117, 114, 110]⟩); refine (ht3 _ hpd).mono ?_; rintro e we ⟨rfl, hpe, hge'⟩; have hge := hgd.trans hge'; have hXe := hXd.grown hge' (by omega)) | (go_at_call_of 99 (Value.string ⟨#[112, 114, 105, 110, 116]⟩); refine (ht4 _ hpe).mono ?_; rintro e wf ⟨rfl, hpf, hgf'⟩; have hgf := hge.trans hgf'; have hXf := hXe.grown hgf' (by omega)) | (go_at_call_of 99 (Value.string ⟨#[102, 111, 114, 107]⟩); refine (hty _ hpf).mono ?_; rintro e wy ⟨rfl, hpy, hgy'⟩; have hgy := hgf.trans hgy'; have hXy := hXf.grown hgy' (by omega); have hly := hXy.lt) | (go_at_call 67; refine (hbk _ hpy).mono ?_; rintro e w2 ⟨u2, rfl, hv2, hp2, hg2⟩; obtain ⟨a, b, c, ad, ln, cp, hu⟩ := NodeV.any hv2; subst hu; have hX2 := hXy.grown hg2 (by omega); have hl2 := hX2.lt) | (go_at_call 69; refine (snode_any _ _ _ _ _).mono ?_; rintro e w4 ⟨rfl, hb4⟩; obtain ⟨⟨x0, x1, x2, x3⟩, f0, f1, f2, f3⟩ := ((hX2.alloc _).grown (grown_below Q hb4) (by omega)).facts))
    refine bodyPost_ret (v := .agg #[.int .i64 13, .string ⟨#[]⟩, .int .i64 0, .slice (some ⟨w2.heap.size, 0, none⟩) 1 1]) (by simp [results, Tryz.results103, go_sem, x0, x1, x2, x3]) rfl ?_
    exact out_kids (kids1 (T := 24) (NodeV.mono hv2 (fun j hj _ => by have hj' : wy.heap.size ≤ j := hj; show w.heap.size + 1 ≤ j; omega)) (by show w.heap.size + 1 ≤ w2.heap.size; omega) 1) hb4 (hp2.below ((Below.refl _ _).alloc (Nat.le_refl _) _)) ((hgy.trans hg2).trans (World.grownBy_alloc _ _ _)) hB
set_option maxRecDepth 20000 in
set_option maxHeartbeats 16000000 in
theorem sstmt_if (Q B : Nat) (v : Value) (S : Src9) (hl : Looks S) (s : PS) (n0 : seesB S wVar s = false) (hset : setB S s = false) (y : seesB S wIf s = true) (X : PS → Got Nd) (hch : ReadsS 141 X Q B v S s.step) (w : World) (hp : Rdr w Q B v S s) :
    Calls Tryz.prog 103 #[.pointer (some ⟨Q, 0, none⟩)] w fun e w' => OutS Q B v S w (NodeG w) (X s.step) e w' := by
  have hB := hp.size
  have hqb := hp.qb
  have HPA : Hid (Rdr (w.alloc zeroNS) Q B v S s) := hp.below ((Below.refl _ w).alloc (Nat.le_refl _) _)
  have HX : Hid (Box4 (w.alloc zeroNS) w.heap.size (.int .i64 0) (.string ⟨#[]⟩) (.int .i64 0) (.slice none 0 0)) := Box4.new _ _ _ _ _
  have ht0 := fun w' (h' : Rdr w' Q B v S s) => stakes_no hl (x := ⟨#[118, 97, 114]⟩) (l := wVar) (by decide) (by decide) n0 w' h'
  have hbs : ∀ w', Rdr w' Q B v S s → Calls Tryz.prog 140 #[.pointer (some ⟨Q, 0, none⟩)] w' fun e w'' => e = .returned (.bool false) ∧ Below w'.heap.size w' w'' := fun w' h' => by have := sbegins_any Q B v S s w' h'; rw [hset] at this; exact this
  have hty := fun w' (h' : Rdr w' Q B v S s) => stakes_yes hl (x := ⟨#[105, 102]⟩) (l := wIf) (by decide) (by decide) (by decide) (by decide) y w' h'
  unfold ReadsS at hch
  clear hp y hset n0
  cases hq : X s.step with
  | error f =>
    rw [hq] at hch
    clear hq
    go_enter Tryz.func103, Tryz.ntmps103
    go_wp2_with (first | (go_at_call_of 99 (Value.string ⟨#[118, 97, 114]⟩); refine (ht0 _ HPA.out).mono ?_; rintro e wa ⟨rfl, hpa, hga'⟩; have hga := (World.grownBy_alloc w zeroNS (some Q)).trans hga'; have hXa := HX.out.grown hga' (by omega)) | (go_at_call 140; refine (hbs _ hpa).mono ?_; rintro e wb ⟨rfl, hbb'⟩; have hpb := hpa.below hbb'; have hgb := hga.trans (grown_below Q hbb'); have hXb := hXa.grown (grown_below Q hbb') (by omega)) | (go_at_call_of 99 (Value.string ⟨#[105, 102]⟩); refine (hty _ hpb).mono ?_; rintro e wy ⟨rfl, hpy, hgy'⟩; have hgy := hgb.trans hgy'; have hXy := hXb.grown hgy' (by omega); have hly := hXy.lt) | (go_at_call 141; refine (hch _ hpy).mono ?_; rintro e w2 ⟨rfl, hg2⟩))
    exact ⟨rfl, rfl, hgy.trans hg2⟩
  | ok z =>
    obtain ⟨k, s2⟩ := z
    rw [hq] at hch
    clear hq
    go_enter Tryz.func103, Tryz.ntmps103
    go_wp2_with (first | (go_at_call_of 99 (Value.string ⟨#[118, 97, 114]⟩); refine (ht0 _ HPA.out).mono ?_; rintro e wa ⟨rfl, hpa, hga'⟩; have hga := (World.grownBy_alloc w zeroNS (some Q)).trans hga'; have hXa := HX.out.grown hga' (by omega)) | (go_at_call 140; refine (hbs _ hpa).mono ?_; rintro e wb ⟨rfl, hbb'⟩; have hpb := hpa.below hbb'; have hgb := hga.trans (grown_below Q hbb'); have hXb := hXa.grown (grown_below Q hbb') (by omega)) | (go_at_call_of 99 (Value.string ⟨#[105, 102]⟩); refine (hty _ hpb).mono ?_; rintro e wy ⟨rfl, hpy, hgy'⟩; have hgy := hgb.trans hgy'; have hXy := hXb.grown hgy' (by omega); have hly := hXy.lt) | (go_at_call 141; refine (hch _ hpy).mono ?_; rintro e w2 ⟨u2, rfl, hv2, hp2, hg2⟩; obtain ⟨a, b, c, ad, ln, cp, hu⟩ := NodeV.any hv2; subst hu; have hlx := hXy.lt; obtain ⟨⟨x0, x1, x2, x3⟩, f0, f1, f2, f3⟩ := (hXy.grown hg2 (by omega)).facts))
    refine bodyPost_ret (v := .agg #[.int .i64 a, .string b, .int .i64 c, .slice ad ln cp]) (by simp [results, Tryz.results103, go_sem, x0, x1, x2, x3]) rfl ?_
    exact out_box (NodeV.mono hv2 (fun j hj _ => by have hj' : wy.heap.size ≤ j := hj; show w.heap.size + 1 ≤ j; omega)) hp2 (hgy.trans hg2) hB
end Go.Proofs.YtkppdndbfedijadGreatDoor

/- package syntax: while. -/
namespace Go.Proofs.YtkppdndbfedijadGreatDoor
open Go.RowKit

theorem cond_tok {S : Src9} {s s' : PS} {n : Nd} (h : condC S s = .ok (n, s')) : s.tok + 2 ≤ s'.tok := by
  unfold condC at h
  cases h1 : wantP S sOpen s with
  | error f => rw [h1] at h; cases h
  | ok y =>
    obtain ⟨⟨⟩, s1⟩ := y
    have e1 := (want_tok h1).1
    rw [h1, then_ok] at h
    cases h2 : exprC S s1 with
    | error f => rw [h2] at h; cases h
    | ok y =>
      obtain ⟨k, s2⟩ := y
      have e2 := (expr_at h2).1
      rw [h2, then_ok] at h
      cases h3 : wantP S sShut s2 with
      | error f => rw [h3] at h; cases h
      | ok y =>
        obtain ⟨⟨⟩, s3⟩ := y
        have e3 := (want_tok h3).1
        rw [h3, then_ok] at h
        cases h
        omega
set_option maxRecDepth 20000 in
set_option maxHeartbeats 16000000 in
theorem sstmt_while (Q B : Nat) (v : Value) (S : Src9) (hl : Looks S) (s : PS) (n0 : seesB S wVar s = false) (n1 : seesB S wIf s = false) (hset : setB S s = false) (y : seesB S wWhile s = true) (hcd : ReadsS 142 (condC S) Q B v S s.step) (hbk : ∀ s1 : PS, s.tok + 1 ≤ s1.tok → s1.tok ≤ S.L.length → ReadsS 67 (blockC S) Q B v S s1) (w : World) (hp : Rdr w Q B v S s) :
    Calls Tryz.prog 103 #[.pointer (some ⟨Q, 0, none⟩)] w fun e w' => OutS Q B v S w (NodeG w) ((condC S s.step).then fun k s => (blockC S s).then fun b s => nodeP 10 [] 0 [k, b] s) e w' := by
  have hB := hp.size
  have hqb := hp.qb
  have HPA : Hid (Rdr (w.alloc zeroNS) Q B v S s) := hp.below ((Below.refl _ w).alloc (Nat.le_refl _) _)
  have HX : Hid (Box4 (w.alloc zeroNS) w.heap.size (.int .i64 0) (.string ⟨#[]⟩) (.int .i64 0) (.slice none 0 0)) := Box4.new _ _ _ _ _
  have ht0 := fun w' (h' : Rdr w' Q B v S s) => stakes_no hl (x := ⟨#[118, 97, 114]⟩) (l := wVar) (by decide) (by decide) n0 w' h'
  have ht1 := fun w' (h' : Rdr w' Q B v S s) => stakes_no hl (x := ⟨#[105, 102]⟩) (l := wIf) (by decide) (by decide) n1 w' h'
  have hbs : ∀ w', Rdr w' Q B v S s → Calls Tryz.prog 140 #[.pointer (some ⟨Q, 0, none⟩)] w' fun e w'' => e = .returned (.bool false) ∧ Below w'.heap.size w' w'' := fun w' h' => by have := sbegins_any Q B v S s w' h'; rw [hset] at this; exact this
  have hty := fun w' (h' : Rdr w' Q B v S s) => stakes_yes hl (x := ⟨#[119, 104, 105, 108, 101]⟩) (l := wWhile) (by decide) (by decide) (by decide) (by decide) y w' h'
  unfold ReadsS at hcd
  have HBK : Hid (∀ s1 : PS, s.tok + 1 ≤ s1.tok → s1.tok ≤ S.L.length → ReadsS 67 (blockC S) Q B v S s1) := hbk
  have ht := sees_lt y
  clear hp y hset hbk n0 n1
  cases hq : condC S s.step with
  | error f =>
    rw [hq] at hcd
    clear hq
    go_enter Tryz.func103, Tryz.ntmps103
    go_wp2_with (first | (go_at_call_of 99 (Value.string ⟨#[118, 97, 114]⟩); refine (ht0 _ HPA.out).mono ?_; rintro e wa ⟨rfl, hpa, hga'⟩; have hga := (World.grownBy_alloc w zeroNS (some Q)).trans hga'; have hXa := HX.out.grown hga' (by omega)) | (go_at_call 140; refine (hbs _ hpa).mono ?_; rintro e wb ⟨rfl, hbb'⟩; have hpb := hpa.below hbb'; have hgb := hga.trans (grown_below Q hbb'); have hXb := hXa.grown (grown_below Q hbb') (by omega)) | (go_at_call_of 99 (Value.string ⟨#[105, 102]⟩); refine (ht1 _ hpb).mono ?_; rintro e wc ⟨rfl, hpc, hgc'⟩; have hgc := hgb.trans hgc'; have hXc := hXb.grown hgc' (by omega)) | (go_at_call_of 99 (Value.string ⟨#[119, 104, 105, 108, 101]⟩); refine (hty _ hpc).mono ?_; rintro e wy ⟨rfl, hpy, hgy'⟩; have hgy := hgc.trans hgy'; have hXy := hXc.grown hgy' (by omega); have hly := hXy.lt) | (go_at_call 142; refine (hcd _ hpy).mono ?_; rintro e w2 ⟨rfl, hg2⟩))
    exact ⟨rfl, rfl, hgy.trans hg2⟩
  | ok z =>
    obtain ⟨k, s2⟩ := z
    have ht2 := cond_tok hq
    rw [hq] at hcd
    rw [then_ok]
    clear hq
    have hr : ∀ w', Rdr w' Q B v S s2 → Calls Tryz.prog 67 #[.pointer (some ⟨Q, 0, none⟩)] w' fun e w'' => OutS Q B v S w' (NodeG w') (blockC S s2) e w'' := fun w' h' => HBK.out s2 (by have e : s.step.tok = s.tok + 1 := rfl; omega) h'.tok w' h'
    clear ht ht2 HBK
    cases hq : blockC S s2 with
    | error f =>
      rw [hq] at hr
      clear hq
      go_enter Tryz.func103, Tryz.ntmps103
      go_wp2_with (first | (go_at_call_of 99 (Value.string ⟨#[118, 97, 114]⟩); refine (ht0 _ HPA.out).mono ?_; rintro e wa ⟨rfl, hpa, hga'⟩; have hga := (World.grownBy_alloc w zeroNS (some Q)).trans hga'; have hXa := HX.out.grown hga' (by omega)) | (go_at_call 140; refine (hbs _ hpa).mono ?_; rintro e wb ⟨rfl, hbb'⟩; have hpb := hpa.below hbb'; have hgb := hga.trans (grown_below Q hbb'); have hXb := hXa.grown (grown_below Q hbb') (by omega)) | (go_at_call_of 99 (Value.string ⟨#[105, 102]⟩); refine (ht1 _ hpb).mono ?_; rintro e wc ⟨rfl, hpc, hgc'⟩; have hgc := hgb.trans hgc'; have hXc := hXb.grown hgc' (by omega)) | (go_at_call_of 99 (Value.string ⟨#[119, 104, 105, 108, 101]⟩); refine (hty _ hpc).mono ?_; rintro e wy ⟨rfl, hpy, hgy'⟩; have hgy := hgc.trans hgy'; have hXy := hXc.grown hgy' (by omega); have hly := hXy.lt) | (go_at_call 142; refine (hcd _ hpy).mono ?_; rintro e w2 ⟨u2, rfl, hv2, hp2, hg2⟩; obtain ⟨a, b, c, ad, ln, cp, hu⟩ := NodeV.any hv2; subst hu; have hX2 := hXy.grown hg2 (by omega); have hl2 := hX2.lt))
      have hRA : Rdr (w2.alloc (.cells #[.int .i64 a, .string b, .int .i64 c, .slice ad ln cp] 24)).drew Q B v S s2 := hp2.below ((Below.refl _ _).alloc (Nat.le_refl _) _).drew
      have hGA : w.grownBy (w2.alloc (.cells #[.int .i64 a, .string b, .int .i64 c, .slice ad ln cp] 24)).drew (some Q) := (hgy.trans hg2).trans (grown_below Q ((Below.refl _ _).alloc (Nat.le_refl _) _).drew)
      obtain ⟨⟨r0, r1, r2, r3⟩, _⟩ := (Box4.new w2 (.int .i64 a) (.string b) (.int .i64 c) (.slice ad ln cp)).facts
      go_region_dies
      all_goals (refine (hr _ hRA).mono ?_; rintro e w3 ⟨rfl, hg3⟩; exact ⟨rfl, rfl, hGA.trans hg3⟩)
    | ok z =>
      obtain ⟨m, s3⟩ := z
      rw [hq] at hr
      rw [then_ok]
      clear hq
      go_enter Tryz.func103, Tryz.ntmps103
      go_wp2_with (first | (go_at_call_of 99 (Value.string ⟨#[118, 97, 114]⟩); refine (ht0 _ HPA.out).mono ?_; rintro e wa ⟨rfl, hpa, hga'⟩; have hga := (World.grownBy_alloc w zeroNS (some Q)).trans hga'; have hXa := HX.out.grown hga' (by omega)) | (go_at_call 140; refine (hbs _ hpa).mono ?_; rintro e wb ⟨rfl, hbb'⟩; have hpb := hpa.below hbb'; have hgb := hga.trans (grown_below Q hbb'); have hXb := hXa.grown (grown_below Q hbb') (by omega)) | (go_at_call_of 99 (Value.string ⟨#[105, 102]⟩); refine (ht1 _ hpb).mono ?_; rintro e wc ⟨rfl, hpc, hgc'⟩; have hgc := hgb.trans hgc'; have hXc := hXb.grown hgc' (by omega)) | (go_at_call_of 99 (Value.string ⟨#[119, 104, 105, 108, 101]⟩); refine (hty _ hpc).mono ?_; rintro e wy ⟨rfl, hpy, hgy'⟩; have hgy := hgc.trans hgy'; have hXy := hXc.grown hgy' (by omega); have hly := hXy.lt) | (go_at_call 142; refine (hcd _ hpy).mono ?_; rintro e w2 ⟨u2, rfl, hv2, hp2, hg2⟩; obtain ⟨a, b, c, ad, ln, cp, hu⟩ := NodeV.any hv2; subst hu; have hX2 := hXy.grown hg2 (by omega); have hl2 := hX2.lt))
      have hRA : Rdr (w2.alloc (.cells #[.int .i64 a, .string b, .int .i64 c, .slice ad ln cp] 24)).drew Q B v S s2 := hp2.below ((Below.refl _ _).alloc (Nat.le_refl _) _).drew
      have hGA : w.grownBy (w2.alloc (.cells #[.int .i64 a, .string b, .int .i64 c, .slice ad ln cp] 24)).drew (some Q) := (hgy.trans hg2).trans (grown_below Q ((Below.refl _ _).alloc (Nat.le_refl _) _).drew)
      have hN2 := Box4.new w2 (.int .i64 a) (.string b) (.int .i64 c) (.slice ad ln cp)
      obtain ⟨⟨r0, r1, r2, r3⟩, _⟩ := hN2.facts
      go_region_with (first | (go_at_call 69; refine (snode_any _ _ _ _ _).mono ?_; rintro e w4 ⟨rfl, hb4⟩; obtain ⟨⟨x0, x1, x2, x3⟩, f0, f1, f2, f3⟩ := ((hX3.alloc _).grown (grown_below Q hb4) (by omega)).facts) | (go_at_call 67; refine (hr _ hRA).mono ?_; rintro e w3 ⟨u3, rfl, hv3, hp3, hg3⟩; obtain ⟨a', b', c', ad', n', cc', hu'⟩ := NodeV.any hv3; subst hu'; have hg3' : (w2.alloc (.cells #[.int .i64 a, .string b, .int .i64 c, .slice ad ln cp] 24)).grownBy w3 (some Q) := (grown_below Q (Below.refl _ _).drew).trans hg3; have hX3 := (hX2.alloc (.cells #[.int .i64 a, .string b, .int .i64 c, .slice ad ln cp] 24)).grown hg3' (by omega); obtain ⟨⟨m0, m1, m2, m3⟩, _⟩ := (hN2.grown hg3' (by omega)).facts))
      all_goals go_wp2_with fail
      all_goals
        have hl3 := hg3'.size
        simp at hl3
        have hga : w.grownBy w3 (some Q) := hGA.trans hg3
        have hn3 : NodeV w3 (From (w.heap.size + 1)) (.agg #[.int .i64 a, .string b, .int .i64 c, .slice ad ln cp]) k := (NodeV.mono hv2 (M' := From (w.heap.size + 1)) (fun j hj _ => by have hj' : wy.heap.size ≤ j := hj; show w.heap.size + 1 ≤ j; omega)).kept ((World.grownBy_alloc _ _ _).trans hg3') (by show ¬ w.heap.size + 1 ≤ Q; omega)
        have hk3 : NodeV w3 (From (w.heap.size + 1)) (.agg #[.int .i64 a', .string b', .int .i64 c', .slice ad' n' cc']) m := NodeV.mono hv3 (fun j hj _ => by have hj' : (w2.alloc (.cells #[.int .i64 a, .string b, .int .i64 c, .slice ad ln cp] 24)).heap.size ≤ j := hj; simp at hj'; show w.heap.size + 1 ≤ j; omega)
        refine bodyPost_ret (v := .agg #[.int .i64 10, .string ⟨#[]⟩, .int .i64 0, .slice (some ⟨w3.heap.size, 0, none⟩) 2 2]) (by simp [results, Tryz.results103, go_sem, x0, x1, x2, x3]) rfl ?_
        exact out_kids (kids2 (T := 24) hn3 hk3 (by show w.heap.size + 1 ≤ w3.heap.size; omega) 2) hb4 (hp3.below ((Below.refl _ _).alloc (Nat.le_refl _) _)) (hga.trans (World.grownBy_alloc _ _ _)) hB
end Go.Proofs.YtkppdndbfedijadGreatDoor
