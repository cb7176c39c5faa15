/- gessoref6.list. -/
import Derived.Test.YtdacgjjkgagjhacRef6N
import Derived.Test.YtdacgjjkgagjhacImgRead
namespace Go.Proofs.Ytdacgjjkgagjhac
open Go.RowKit

/-- What list tells. -/
def RListEnd (B : Nat) (R : Except (Int × Int) (List Int × Nat)) (e : Ending) (w' : World) : Prop :=
  match R with
  | .error f => e = .returned (.tuple #[.slice none 0 0, .int .i64 0, .agg #[.int .i64 f.1, .int .i64 f.2]])
  | .ok (l, q) => ∃ v, e = .returned (.tuple #[v, .int .i64 (q : Int), .agg #[.int .i64 0, .int .i64 0]]) ∧ w'.ownsRow B 3 1 v l.length (vals l)
theorem cell_one_past (w : World) (o : Obj) (x : Value) (t : TypeId) : ∀ j u, [x][j]? = some u → ((w.alloc o).alloc (.cells #[x] t)).cell? ((⟨w.heap.size + 1, 0, none⟩ : Addr).add j) = some u := by
  have := cell_one_new (w.alloc o) x t
  simpa using this
/-- The result's box. -/
theorem box_res {w w' : World} {x y : Value} {t : TypeId} (hb : Below (w.heap.size + 1) (w.alloc (.cells #[x, y] t)) w') :
    w'.cell? ⟨w.heap.size, 0, none⟩ = some x ∧ w'.cell? ⟨w.heap.size, 1, none⟩ = some y ∧ w'.frozen? ⟨w.heap.size, 0, none⟩ = false ∧ w'.frozen? ⟨w.heap.size, 1, none⟩ = false ∧ w.heap.size < w'.heap.size ∧ Below w.heap.size w w' := by
  obtain ⟨a, b, c, d, e⟩ := box2W (hb.mono (by simp))
  exact ⟨a, b, c, d, e, ((Below.refl _ _).alloc (Nat.le_refl _) _).trans (hb.mono (by omega))⟩

set_option maxRecDepth 20000 in
set_option maxHeartbeats 4000000 in
theorem rlist_any (ad : Option Addr) (cap p : Nat) (least most : Int) (b : List Int) (w : World) (h : BytesAt ad b w) (hbm : b.length ≤ maxLen) (hp : p ≤ 100000) (h0 : 0 ≤ least) (h2 : most ≤ 2000) (h1 : least ≤ 2000) (h3 : 0 ≤ most) :
    Calls Try.prog 26 #[.slice ad b.length cap, .int .i64 p, .int .i64 least, .int .i64 most] w fun e w' => RListEnd w.heap.size (listAt b p least most) e w' ∧ Below w.heap.size w w' := by
  have HB : Hid (BytesAt ad b w) := h
  have hby := h.1
  have Hbm : Hid (b.length ≤ maxLen) := hbm
  have hbA : Below w.heap.size w (w.alloc (.cells #[.int .i64 0, .int .i64 0] 27)) := (Below.refl _ _).alloc (Nat.le_refl _) _
  clear h hbm
  cases hn : numAt b p with
  | error f =>
    have HL : Hid (listAt b p least most = .error f) := by
      have : listAt b p least most = .error f := by unfold listAt; rw [hn]
      exact this
    have Hw : Hid (∀ w0, BytesAt ad b w0 → Calls Try.prog 43 #[.slice ad b.length cap, .int .i64 p] w0 fun e w' => e = .returned (.tuple #[.int .i64 0, .int .i64 0, .agg #[.int .i64 f.1, .int .i64 f.2]]) ∧ Below w0.heap.size w0 w') := fun w0 h0 => rnumber_bad ad cap p f b w0 h0 Hbm.out (by omega) hn
    have hc := numAt_code hn
    obtain ⟨F1, F2⟩ := f
    have hcb : (F1 != 0) = true := by simpa using hc
    clear hn hc hby
    go_enter Try.func26, Try.ntmps26
    go_wp2_with (first | (go_at_call 43; refine (Hw.out _ (HB.out.below hbA)).mono ?_; rintro e w1 ⟨rfl, hb1⟩; obtain ⟨x0, x1, z0, z1, hz⟩ := box2W hb1))
    go_region
    all_goals go_wp2_with fail
    all_goals refine bodyPost_ret (v := .tuple #[.slice none 0 0, .int .i64 0, .agg #[.int .i64 F1, .int .i64 F2]]) (by simp [results, Try.results26, go_sem, cell_past, x0, x1, hz]) rfl ⟨by rw [HL.out]; rfl, ?_⟩
    all_goals repeat (first | refine Below.drew ?_ | refine Below.setCell ?_ (by dsimp only; omega) _ | refine Below.alloc ?_ (by first | omega | (simp; omega)) _ | exact below_call hb1)
  | ok nq =>
    obtain ⟨n, q⟩ := nq
    obtain ⟨hpq, hq9⟩ := numAt_le hby hn
    have Hw : Hid (∀ w0, BytesAt ad b w0 → Calls Try.prog 43 #[.slice ad b.length cap, .int .i64 p] w0 fun e w' => e = .returned (.tuple #[.int .i64 n, .int .i64 ((q - p : Nat) : Int), .agg #[.int .i64 0, .int .i64 0]]) ∧ Below w0.heap.size w0 w') := fun w0 h0 => rnumber_ok ad cap p q n b w0 h0 Hbm.out (by omega) hn
    by_cases hc : n < least ∨ most < n
    · have HL : Hid (listAt b p least most = .error (1, p)) := by
        have : listAt b p least most = .error (1, p) := by unfold listAt; rw [hn]; simp only; rw [if_pos hc]
        exact this
      clear hn hby
      have hc' : n < least ∨ (¬ n < least ∧ most < n) := by omega
      clear hc
      rcases hc' with hc | ⟨hc, hc2⟩
      all_goals
        go_enter Try.func26, Try.ntmps26
        go_wp2_with (first | (go_at_call 43; refine (Hw.out _ (HB.out.below hbA)).mono ?_; rintro e w1 ⟨rfl, hb1⟩; obtain ⟨x0, x1, z0, z1, hz⟩ := box2W hb1))
        refine bodyPost_ret (v := .tuple #[.slice none 0 0, .int .i64 0, .agg #[.int .i64 1, .int .i64 p]]) (by simp [results, Try.results26, go_sem, cell_past, x0, x1, hz]) rfl ⟨by rw [HL.out]; rfl, ?_⟩
        repeat (first | refine Below.drew ?_ | refine Below.setCell ?_ (by dsimp only; omega) _ | refine Below.alloc ?_ (by first | omega | (simp; omega)) _ | exact below_call hb1)
    · have hcl : ¬ n < least := fun h => hc (Or.inl h)
      have hcm : ¬ most < n := fun h => hc (Or.inr h)
      have HL0 : listAt b p least most = numsAt b n.toNat q := by unfold listAt; rw [hn]; simp only; rw [if_neg hc]
      obtain ⟨m, rfl⟩ : ∃ m : Nat, n = m := ⟨n.toNat, by omega⟩
      rw [Int.toNat_natCast] at HL0
      generalize hR : listAt b p least most = R at *
      have HL : Hid (numsAt b m q = R) := HL0.symm
      have hqp : (p : Int) + ((q - p : Nat) : Int) = (q : Int) := by omega
      have Hby : Hid (∀ c ∈ b, 0 ≤ c ∧ c ≤ 255) := hby
      clear hc hn hR HL0 hby
      obtain ⟨i0, hi, hz0, hz1, hz2⟩ := info_parts info3
      go_enter Try.func26, Try.ntmps26
      go_wp2_with (first | (go_at_call 43; refine (Hw.out _ (HB.out.below hbA)).mono ?_; rintro e w1 ⟨rfl, hb1⟩; obtain ⟨x0, x1, z0, z1, hz⟩ := box2W hb1))
      go_loopw [14, 1, 15] (fun s a y wr => ∃ (q1 : Nat) (l1 : List Int), a = .int .i64 q1 ∧ y = .int .i64 (l1.length : Nat) ∧ l1.length ≤ m ∧ q1 ≤ p + 9 + 9 * l1.length ∧ Hid (ahead l1 (numsAt b (m - l1.length) q1) = R) ∧ Hid (wr.ownsRow (w.heap.size + 1) 3 1 s l1.length (vals l1)) ∧ Below (w.heap.size + 1) (w.alloc (.cells #[.int .i64 0, .int .i64 0] 27)) wr) (fun _ _ y _ => m - (intOf y).toNat)
      case atStart => exact ⟨q, [], by first | rfl | (simp; omega), rfl, by simp, by simp; omega, by (have : ahead [] (numsAt b m q) = R := (by rw [← HL.out]; cases numsAt b m q with | error e => rfl | ok lr => rfl); exact this), World.ownsRow_nil _ _ _ _, (hb1.mono (by simp)).alloc (by omega) _⟩
      case round =>
        rename_i s a y wr
        obtain ⟨q1, l1, rfl, rfl, him, hqb, hR, ho, hb⟩ := hrel
        obtain ⟨x0, x1, z0, z1, hz, hbw⟩ := box_res hb
        clear Hw
        by_cases hlt' : l1.length < m
        · have hil : (l1.length : Int) < (m : Int) := by omega
          have hR' : ahead l1 (numsAt b (m - (l1.length + 1) + 1) q1) = R := by rw [show m - (l1.length + 1) + 1 = m - l1.length by omega]; exact hR.out
          cases hx : numAt b q1 with
          | error f =>
            have HD : Hid (R = .error f) := ahead_bad hR' hx
            have Hw : Hid (∀ w0, BytesAt ad b w0 → Calls Try.prog 43 #[.slice ad b.length cap, .int .i64 q1] w0 fun e w' => e = .returned (.tuple #[.int .i64 0, .int .i64 0, .agg #[.int .i64 f.1, .int .i64 f.2]]) ∧ Below w0.heap.size w0 w') := fun w0 h0 => rnumber_bad ad cap q1 f b w0 h0 Hbm.out (by omega) hx
            have hc := numAt_code hx
            obtain ⟨F1, F2⟩ := f
            have hcb : (F1 != 0) = true := by simpa using hc
            clear hx hR' hc
            go_wp2_with (first | (go_at_call 43; refine (Hw.out _ (HB.out.below hbw)).mono ?_; rintro e w3 ⟨rfl, hb3⟩; obtain ⟨x03, x13, z03, z13, hz3, hbw3⟩ := box_res (hb.trans (hb3.mono (by omega)))))
            go_region
            all_goals go_wp2_with fail
            all_goals refine bodyPost_ret (v := .tuple #[.slice none 0 0, .int .i64 0, .agg #[.int .i64 F1, .int .i64 F2]]) (by simp [results, Try.results26, go_sem, cell_past, x03, x13, hz3]) rfl ⟨by rw [HD.out]; rfl, ?_⟩
            all_goals repeat (first | refine Below.drew ?_ | refine Below.setCell ?_ (by dsimp only; omega) _ | refine Below.alloc ?_ (by first | omega | (simp; omega)) _ | exact hbw3)
          | ok xq =>
            obtain ⟨x, q'⟩ := xq
            obtain ⟨hq1, hq2⟩ := numAt_le Hby.out hx
            have HD : Hid (ahead (l1 ++ [x]) (numsAt b (m - (l1.length + 1)) q') = R) := ahead_step hR' hx
            have Hw : Hid (∀ w0, BytesAt ad b w0 → Calls Try.prog 43 #[.slice ad b.length cap, .int .i64 q1] w0 fun e w' => e = .returned (.tuple #[.int .i64 x, .int .i64 ((q' - q1 : Nat) : Int), .agg #[.int .i64 0, .int .i64 0]]) ∧ Below w0.heap.size w0 w') := fun w0 h0 => rnumber_ok ad cap q1 q' x b w0 h0 Hbm.out (by omega) hx
            have hqq : (q1 : Int) + ((q' - q1 : Nat) : Int) = (q' : Int) := by omega
            clear hx hR' hqp
            go_wp2_with (first | (go_at_call 43; refine (Hw.out _ (HB.out.below hbw)).mono ?_; rintro e w3 ⟨rfl, hb3⟩; obtain ⟨x03, x13, z03, z13, hz3, hbw3⟩ := box_res (hb.trans (hb3.mono (by omega))); have ho3 := own_same ho.out (fun g hg => hb3.block g (ho.out.lt g hg).2); have hbb3 := hb.trans (hb3.mono (by omega))) | (at_builtin; go_must (refine wpList_append_own _ rfl _ _ 22 rfl (w.heap.size + 1) 3 i0 (.int .i64 0) 1 8 ty30 hi hz0 hz1 hz2 rfl (by decide) _ l1.length (vals l1) rfl ((ho3.alloc _).alloc _) ⟨w3.heap.size + 1, 0, none⟩ 1 1 [.int .i64 x] rfl rfl (cell_one_past _ _ _ _) (ints_oneCell .i64 [x]) (by unfold maxLen; omega) (by omega) (by simp; omega) ?_); intro v' w4 hown4 hgrow4 hnil4; have hb4 := ((hbb3.alloc (by omega) _).alloc (by simp; omega) _).grown hgrow4 (by simp; omega) (fun k hk => (ho3.lt k hk).1)))
            go_roundw
            case rel => exact ⟨q', l1 ++ [x], by first | rfl | (simp; omega), by simp, by simp; omega, by simp; omega, by (rw [List.length_append]; exact HD.out), by (have : w4.ownsRow (w.heap.size + 1) 3 1 v' (l1 ++ [x]).length (vals (l1 ++ [x])) := (by simpa using hown4); exact this), hb4⟩
            case measure => simp [intOf]; omega
        · have hil : ¬ (l1.length : Int) < (m : Int) := by omega
          have hfin : Hid (R = .ok (l1, q1)) := by
            have := hR.out
            rw [show m - l1.length = 0 by omega] at this
            have e : R = .ok (l1, q1) := by rw [← this]; simp [ahead, numsAt]
            exact e
          have hos : Hid (∀ A B, ((wr.setCell ⟨w.heap.size, 0, none⟩ A).setCell ⟨w.heap.size, 1, none⟩ B).ownsRow (w.heap.size + 1) 3 1 u14 l1.length (vals l1)) := fun A B => ownsRow_setCell_below (ownsRow_setCell_below ho.out (a := ⟨w.heap.size, 0, none⟩) (by dsimp only; omega) A) (a := ⟨w.heap.size, 1, none⟩) (by dsimp only; omega) B
          go_wp2
          refine bodyPost_ret (v := .tuple #[u14, .int .i64 (q1 : Int), .agg #[.int .i64 0, .int .i64 0]]) (by simp [results, Try.results26, go_sem, x0, x1]) rfl ⟨by rw [hfin.out]; exact ⟨u14, rfl, own_mono (by omega) (hos.out _ _)⟩, ?_⟩
          exact (hbw.setCell (by dsimp only; omega) _).setCell (by dsimp only; omega) _
end Go.Proofs.Ytdacgjjkgagjhac
