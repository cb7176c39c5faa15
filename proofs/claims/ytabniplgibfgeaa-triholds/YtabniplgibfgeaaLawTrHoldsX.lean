/- TriHolds holds for every heap, all roots and all ops that can come in, with no condition: nothing that the program frees is reached in the end by the document's answer, and what was not reached at first is freed. -/
import Derived.Test.YtabniplgibfgeaaTriGoX
import Derived.Test.YtabniplgibfgeaaThKitX
namespace Go.Proofs.Ytabniplgibfgeaa.triHolds
open Go.ChangeShapes Go.WideShapes Go.ChangeAt Go.RowKit Go.Joins Go.Deep

theorem opTyH : ∃ f0 f1 f2 f3 f4 f5, OpTy 50 f0 f1 f2 f3 f4 f5 := ⟨_, _, _, _, _, _, Try.underlying50, by kernel_rfl, by kernel_rfl, by simp⟩

theorem big (ad rad oad : Option Addr) (n cap rn rc m oc : Nat) (w : World) (hm : n ≤ maxLen) (hrm : rn ≤ maxLen) (h : 5000 < n ∨ 5000 < rn) :
    Calls Try.prog 3 #[.agg #[.slice ad n cap], .slice rad rn rc, .slice oad m oc] w fun e w' => e = .returned (.bool true) ∧ Below w.heap.size w w' := by
  go_enter Try.func3, Try.ntmps3
  go_wp2_with (go_at_call 5; refine (lvast_yes ad rad n cap rn rc _ hm hrm h).mono ?_; rintro e w1 ⟨rfl, hb1⟩)
  go_ret
  exact ⟨rfl, below_call hb1⟩

theorem many (ad rad oad : Option Addr) (n cap rn rc m oc : Nat) (w : World) (h1 : n ≤ 5000) (h2 : rn ≤ 5000) (hom : m ≤ maxLen) (h : 500 < m) :
    Calls Try.prog 3 #[.agg #[.slice ad n cap], .slice rad rn rc, .slice oad m oc] w fun e w' => e = .returned (.bool true) ∧ Below w.heap.size w w' := by
  unfold maxLen at hom
  have hi : (500 : Int) < (m : Int) := by omega
  go_enter Try.func3, Try.ntmps3
  go_wp2_with (go_at_call 5; refine (lvast_no ad rad n cap rn rc _ h1 h2).mono ?_; rintro e w1 ⟨rfl, hb1⟩)
  go_ret
  exact ⟨rfl, below_call hb1⟩

set_option maxHeartbeats 4000000 in
theorem walk_no (W roots : List Int) (ops : List OpT) (ad rad oad : Option Addr) (cap rcap ocap : Nat) (w : World) (hl : W.length ≤ 5000) (hrl : roots.length ≤ 5000) (hol : ops.length ≤ 500) (hr : WordsAt ad W w) (hroots : RootsAt rad roots w) (hops : OpsAt oad ops w) (h : (rootsOf W roots).1 ≠ 0) :
    Calls Try.prog 3 #[.agg #[.slice ad W.length cap], .slice rad roots.length rcap, .slice oad ops.length ocap] w fun e w' => e = .returned (.bool true) ∧ Below w.heap.size w w' := by
  have h6 : Hid (∀ w0, Below w.heap.size w w0 → Calls Try.prog 6 #[heapV ad W.length cap, .slice rad roots.length rcap, .slice oad ops.length ocap] w0 fun e w' => e = .returned (.tuple #[.agg #[.slice none 0 0, .slice none 0 0, .slice none 0 0, .bool false, .slice none 0 0], .agg #[.int .i64 (rootsOf W roots).1, .int .i64 (rootsOf W roots).2]]) ∧ Below w0.heap.size w0 w') :=
    fun w0 hb => tplay_no W roots ops ad rad oad cap rcap ocap w0 (by unfold maxLen; omega) (hr.below hb) (hroots.below hb) (hops.below hb) hrl (by omega) h
  have h7 : Hid (∀ w0, Below w.heap.size w w0 → Calls Try.prog 7 #[heapV ad W.length cap, .slice rad roots.length rcap] w0 fun e w' => e = .returned (.agg #[.int .i64 (rootsOf W roots).1, .int .i64 (rootsOf W roots).2]) ∧ Below w0.heap.size w0 w') :=
    fun w0 hb => rroots_any W roots ad rad cap rcap w0 (by unfold maxLen; omega) (hr.below hb) (hroots.below hb) hrl
  generalize rootsOf W roots = F at *
  have hb : (F.1 != 0) = true := by simpa using h
  have hi : ¬ (500 : Int) < (ops.length : Int) := by omega
  clear h hr hroots hops
  go_enter Try.func3, Try.ntmps3
  go_wp2_with (first | (go_at_call 5; refine (lvast_no ad rad _ cap _ rcap _ hl hrl).mono ?_; rintro e w1 ⟨rfl, hb1⟩; have k1 := box_one hb1; have z1 := grew1 hb1; have hW1 := below_call hb1) | (go_at_call 6; refine (h6.out _ hW1).mono ?_; rintro e w2 ⟨rfl, hb2⟩; have k2 := through hb2 k1 z1; have z2 := hb2.size; have hW2 := hW1.trans (hb2.mono hW1.size); have z02 : w.heap.size < w2.heap.size := (by omega)) | (go_at_call 7; refine (h7.out _ ((hW2.alloc hW2.size _).alloc (Nat.le_trans hW2.size (by simp)) _)).mono ?_; rintro e w3 ⟨rfl, hb3⟩; obtain ⟨⟨f0, f1, f2, f3, f4⟩, g0, g1, z3⟩ := boxes52 hb3; have z30 : w2.heap.size < w3.heap.size := (by omega); have hW3 := hW2.trans ((below2 hb3).mono hW2.size)))
  go_ret
  exact ⟨ret_bool (by simp), hW3.alloc hW3.size _⟩

set_option maxRecDepth 100000 in
set_option maxHeartbeats 8000000 in
theorem walk_yes (W roots : List Int) (ops : List OpT) (ad rad oad : Option Addr) (cap rcap ocap : Nat) (w : World) (hcp : W.length ≤ cap) (hrl : roots.length ≤ 5000) (hol : ops.length ≤ 500) (hr : WordsAt ad W w) (hroots : RootsAt rad roots w) (hops : OpsAt oad ops w) (h : (rootsOf W roots).1 = 0) :
    Calls Try.prog 3 #[.agg #[.slice ad W.length cap], .slice rad roots.length rcap, .slice oad ops.length ocap] w fun e w' => e = .returned (.bool true) ∧ Below w.heap.size w w' := by
  obtain ⟨hc, _, h00⟩ := roots_zero h
  have hok := ok_rootsOf h
  have hl := (fine_of hc).few
  have hu0 := (fine_of hc).fit
  have h2 : 2 ≤ W.length := (front_out (check_fine hc).1).1
  have h6 : Hid (∀ w0, Below w.heap.size w w0 → Calls Try.prog 6 #[heapV ad W.length cap, .slice rad roots.length rcap, .slice oad ops.length ocap] w0 fun e w' => TpAns (playT W roots ops) e w' ∧ Below w0.heap.size w0 w') :=
    fun w0 hb => tplay_yes W roots ops ad rad oad cap rcap ocap w0 (hr.below hb) (hroots.below hb) (hops.below hb) hrl (by omega) h hcp
  have h7 : Hid (∀ w0, Below w.heap.size w w0 → Calls Try.prog 7 #[heapV ad W.length cap, .slice rad roots.length rcap] w0 fun e w' => e = .returned (.agg #[.int .i64 0, .int .i64 0]) ∧ Below w0.heap.size w0 w') :=
    fun w0 hb => by have := rroots_any W roots ad rad cap rcap w0 (by unfold maxLen; omega) (hr.below hb) (hroots.below hb) hrl; rw [h00] at this; exact this
  have h9 : Hid (∀ w0, Below w.heap.size w w0 → Calls Try.prog 8 #[heapV ad W.length cap, .slice rad roots.length rcap] w0 fun e w' => ReachAns W roots w0.heap.size e w' ∧ Below w0.heap.size w0 w') :=
    fun w0 hb => by obtain ⟨b, off, rfl, hrow⟩ := hr.below hb h2; exact rreach_wide W roots b off cap rad rcap w0 hrow (hroots.below hb) hu0 h2 hl (by omega)
  obtain ⟨sW, sR, sC, sF⟩ := play_sizes ops hc hok hrl (by omega)
  have HI : Hid (TInv W roots (playT W roots ops)) := play_inv ops hc hok
  generalize playT W roots ops = s at *
  have hsc := HI.out.may
  have hsu := (fine_of hsc).fit
  have hs2 : 2 ≤ s.W.length := (front_out (check_fine hsc).1).1
  have hgr : ¬ (s.W.length : Int) < (W.length : Int) := by have := HI.out.grow; omega
  have h10 : Hid (∀ w0 p0 c0 p1 c1, Reads w0 (.slice p0 s.W.length c0) s.W → Reads w0 (.slice p1 s.R.length c1) s.R → Calls Try.prog 7 #[heapV p0 s.W.length c0, .slice p1 s.R.length c1] w0 fun e w' => e = .returned (.agg #[.int .i64 0, .int .i64 0]) ∧ Below w0.heap.size w0 w') :=
    fun w0 p0 c0 p1 c1 hw hr' => by
      have := rroots_wide s.W s.R p0 p1 c0 c1 w0 (by unfold maxLen; omega) (fun _ => reads_row hw (words_wf hsc) (by omega)) (fun h0 => reads_row hr' (wd_wf HI.out.roots) h0) (by omega)
      rw [rootsOf_ok hsc HI.out.roots] at this; exact this
  have h11 : Hid (∀ w0 p0 c0 p1 c1, Reads w0 (.slice p0 s.W.length c0) s.W → Reads w0 (.slice p1 s.R.length c1) s.R → Calls Try.prog 8 #[heapV p0 s.W.length c0, .slice p1 s.R.length c1] w0 fun e w' => ReachAns s.W s.R w0.heap.size e w' ∧ Below w0.heap.size w0 w') :=
    fun w0 p0 c0 p1 c1 hw hr' => by
      obtain ⟨b, off, rfl, hrow⟩ := reads_row hw (words_wf hsc) (by omega)
      exact rreach_wide s.W s.R b off c0 p1 c1 w0 hrow (fun h0 => reads_row hr' (wd_wf HI.out.roots) h0) hsu hs2 sW (by omega)
  have hl5 : W.length ≤ 5000 := by omega
  have hi : ¬ (500 : Int) < (ops.length : Int) := by omega
  clear h hr hroots hops h00 hok
  cases hd : doneT s with
  | false =>
    have HF0 : Hid ((freedT s).length = 0) := by rw [freed_not hd]; rfl
    have h6 : Hid (∀ w0, Below w.heap.size w w0 → Calls Try.prog 6 #[heapV ad W.length cap, .slice rad roots.length rcap, .slice oad ops.length ocap] w0 fun e w' => (∃ v0 v1 v2 v4, e = .returned (.tuple #[.agg #[v0, v1, v2, .bool false, v4], .agg #[.int .i64 0, .int .i64 0]]) ∧ PlayAns' w' s v0 v1 v2 v4) ∧ Below w0.heap.size w0 w') := fun w0 hb => by have := h6.out w0 hb; unfold TpAns at this; rw [hd] at this; exact this
    clear HI hsc hsu
    go_enter Try.func3, Try.ntmps3
    go_wp2_with (first | (go_at_call 5; refine (lvast_no ad rad _ cap _ rcap _ hl5 hrl).mono ?_; rintro e w1 ⟨rfl, hb1⟩; have k1 := box_one hb1; have z1 := grew1 hb1; have hW1 := below_call hb1) | (go_at_call 6; refine (h6.out _ hW1).mono ?_; rintro e w2 ⟨⟨a0, a1, a2, a4, rfl, hA2⟩, hb2⟩; obtain ⟨p0, c0, p1, c1, p2, c2, p4, c4, rfl, rfl, rfl, rfl⟩ := hA2.forms; have k2 := through hb2 k1 z1; have z2 := hb2.size; have hW2 := hW1.trans (hb2.mono hW1.size); have z02 : w.heap.size < w2.heap.size := (by omega)) | (go_at_call 7; refine (h10.out _ _ _ _ _ (hA3.below ((Below.refl w3.heap.size w3).alloc (Nat.le_refl _) _)).words (hA3.below ((Below.refl w3.heap.size w3).alloc (Nat.le_refl _) _)).roots).mono ?_; rintro e w4 ⟨rfl, hb4⟩; obtain ⟨i0, i1, z4⟩ := box2h hb4; have bW4 := below_call hb4; have f0' := through bW4 f0 z30; have f3' := through bW4 f3 z30; have f4' := through bW4 f4 z30; have g0' := through bW4 g0 z3; have k4 := through bW4 k3 z03; have hW4 := hW3.trans (bW4.mono hW3.size); have z40 : w2.heap.size < w4.heap.size := (by omega); have z41 : w2.heap.size + 1 < w4.heap.size := (by omega); have z04 : w.heap.size < w4.heap.size := (by omega)) | (go_at_call 7; refine (h7.out _ ((hW2.alloc hW2.size _).alloc (Nat.le_trans hW2.size (by simp)) _)).mono ?_; rintro e w3 ⟨rfl, hb3⟩; obtain ⟨⟨f0, f1, f2, f3, f4⟩, g0, g1, z3⟩ := boxes52 hb3; have bW3 := below2 hb3; have z30 : w2.heap.size < w3.heap.size := (by omega); have hW3 := hW2.trans (bW3.mono hW2.size); have k3 := through bW3 k2 z02; have z03 : w.heap.size < w3.heap.size := (by omega); have hA3 := hA2.below bW3; clear hW2))
    go_ret
    exact ⟨ret_bool (by simp [HF0.out]), hW4.alloc hW4.size _⟩
  | true =>
    have HI2 : Hid (TInv W roots s) := HI.out
    obtain ⟨t0, hti, hz0, hz1, hz2⟩ := info_parts info4
    have h6 : Hid (∀ w0, Below w.heap.size w w0 → Calls Try.prog 6 #[heapV ad W.length cap, .slice rad roots.length rcap, .slice oad ops.length ocap] w0 fun e w' => (∃ v0 v1 v2 v4, e = .returned (.tuple #[.agg #[v0, v1, v2, .bool true, v4], .agg #[.int .i64 0, .int .i64 0]]) ∧ PlayAns' w' s v0 v1 v2 v4) ∧ Below w0.heap.size w0 w') := fun w0 hb => by have := h6.out w0 hb; unfold TpAns at this; rw [hd] at this; exact this
    clear HI
    go_enter Try.func3, Try.ntmps3
    go_wp2_with (first | (at_make; refine wpList_make_full _ rfl _ _ 35 rfl (w6.heap.size) 4 t0 (.bool false) 1 tyBools hti hz0 hz1 _ _ _ _ s.W.length rfl rfl rfl rfl (by rw [hz2]; omega) (by unfold maxLen; omega) (by simp) ?_; intro w7 hown7 hgrow7) | (go_at_call 5; refine (lvast_no ad rad _ cap _ rcap _ hl5 hrl).mono ?_; rintro e w1 ⟨rfl, hb1⟩; have k1 := box_one hb1; have z1 := grew1 hb1; have hW1 := below_call hb1) | (go_at_call 6; refine (h6.out _ hW1).mono ?_; rintro e w2 ⟨⟨a0, a1, a2, a4, rfl, hA2⟩, hb2⟩; obtain ⟨p0, c0, p1, c1, p2, c2, p4, c4, rfl, rfl, rfl, rfl⟩ := hA2.forms; have k2 := through hb2 k1 z1; have z2 := hb2.size; have hW2 := hW1.trans (hb2.mono hW1.size); have z02 : w.heap.size < w2.heap.size := (by omega)) | (go_at_call 7; refine (h10.out _ _ _ _ _ (hA3.below ((Below.refl w3.heap.size w3).alloc (Nat.le_refl _) _)).words (hA3.below ((Below.refl w3.heap.size w3).alloc (Nat.le_refl _) _)).roots).mono ?_; rintro e w4 ⟨rfl, hb4⟩; obtain ⟨i0, i1, z4⟩ := box2h hb4; have bW4 := below_call hb4; have f0' := through bW4 f0 z30; have f1' := through bW4 f1 z30; have f3' := through bW4 f3 z30; have f4' := through bW4 f4 z30; have g0' := through bW4 g0 z3; have k4 := through bW4 k3 z03; have hW4 := hW3.trans (bW4.mono hW3.size); have z40 : w2.heap.size < w4.heap.size := (by omega); have z41 : w2.heap.size + 1 < w4.heap.size := (by omega); have z04 : w.heap.size < w4.heap.size := (by omega); have bA4 : Below w4.heap.size w4 (w4.alloc (.cells #[.int .i64 0, .int .i64 0] 31)) := (Below.refl _ _).alloc (Nat.le_refl _) _; have hA4 := (hA3.below bW4).below bA4; have hW4a := hW4.trans (bA4.mono hW4.size); have hz4 : (w4.alloc (.cells #[.int .i64 0, .int .i64 0] 31)).heap.size = w4.heap.size + 1 := (by simp)) | (go_at_call 7; refine (h7.out _ ((hW2.alloc hW2.size _).alloc (Nat.le_trans hW2.size (by simp)) _)).mono ?_; rintro e w3 ⟨rfl, hb3⟩; obtain ⟨⟨f0, f1, f2, f3, f4⟩, g0, g1, z3⟩ := boxes52 hb3; have bW3 := below2 hb3; have z30 : w2.heap.size < w3.heap.size := (by omega); have hW3 := hW2.trans (bW3.mono hW2.size); have k3 := through bW3 k2 z02; have z03 : w.heap.size < w3.heap.size := (by omega); have hA3 := hA2.below bW3; clear hW2) | (go_at_call 8; refine (h9.out _ hW5).mono ?_; rintro e w6 ⟨⟨ob2, B2, rfl, hob2, hMk2, hTl2⟩, hb6⟩; have hW6 := hW5.trans (hb6.mono hW5.size); have hA6 := hA5.below hb6; have hMk1 := Marks.below hMk hb6 hobl; have f0c := through hb6 f0b z50; have f4c := through hb6 f4b z50; have z60 : w2.heap.size < w6.heap.size := (by have := hb6.size; omega); have hob6 : ob < w6.heap.size := (by have := hb6.size; omega); have hob26 := own_lt hMk2; clear hW5) | (go_at_call 8; refine (h11.out _ _ _ _ _ hA4.words hA4.roots).mono ?_; rintro e w5 ⟨⟨ob, B1, rfl, hob, hMk, hTl⟩, hb5⟩; have hobl := own_lt hMk; have bB5 := bA4.trans (hb5.mono bA4.size); have f0b := through bB5 f0' z40; have f4b := through bB5 f4' z40; have k5 := through bB5 k4 z04; have hA5 := hA4.below hb5; have hW5 := hW4a.trans (hb5.mono hW4a.size); have z50 : w2.heap.size < w5.heap.size := (by have := bB5.size; omega); clear hA4))
    have hM7 : Marks w7 w6.heap.size s.W.length s.W.length (List.replicate s.W.length false) := by
      have := own_mono (Nat.zero_le _) hown7
      unfold Marks
      simpa [toList_madeCells_one, bvals, Value.cells] using this
    have hB7 : Below w6.heap.size w6 w7 := (Below.refl _ _).grown hgrow7 (Nat.le_refl _) (fun k hk => by cases hk)
    clear hown7 hgrow7
    obtain ⟨wb, wo, rfl, hrow6⟩ := reads_row hA6.words (words_wf hsc) (by omega)
    have HRW : Hid (Row w6 wb wo s.W) := hrow6
    have HFL : Hid ((freedT s).length = (freeP s).length) := by rw [freed_done hd, List.length_map]; exact rfl
    have HFR : Hid (Reads w6 (.slice p4 (freedT s).length c4) (freedT s)) := hA6.freed
    have HM1 : Hid (Marks w6 ob s.W.length s.W.length B1) := hMk1
    have HM2 : Hid (Marks w6 ob2 W.length W.length B2) := hMk2
    have HT1 : Hid (Tells s.W s.R B1) := ⟨hMk1.length, hTl⟩
    have HT2 : Hid (Tells W roots B2) := ⟨hMk2.length, hTl2⟩
    have HW6 : Hid (Below w.heap.size w w6) := hW6
    clear hrow6 hMk1 hMk2 hTl hTl2 hA6 hA5 hMk h6 h7 h9 h10 h11
    go_loopw [14] (fun s14 wr => ∃ i : Nat, s14 = .int .i64 i ∧ i ≤ (freedT s).length ∧ Hid (Marks wr w6.heap.size s.W.length s.W.length (markF s.W.length ((freeP s).take i))) ∧ Hid (Below w6.heap.size w6 wr)) (fun s14 _ => 3000 - (intOf s14).toNat)
    case atStart => exact ⟨0, rfl, Nat.zero_le _, hM7, hB7⟩
    case round =>
      clear hM7 hB7
      obtain ⟨i, rfl, hil, HM, HB⟩ := hrel
      have f0d := through HB.out f0c z60
      have f4d := through HB.out f4c z60
      have hrow := HRW.out.below HB.out HRW.out.lt
      have hgl := own_lt HM.out
      by_cases hin : i < (freedT s).length
      · have hin' : i < (freeP s).length := by have := HFL.out; omega
        obtain ⟨fb, fo, hp4, hfl, hfc⟩ := reads_atH HFR.out hin
        subst hp4
        have hfc' := through HB.out hfc hfl
        rw [free_at hd hin'] at hfc'
        have HQ : Hid ((freeP s).take (i + 1) = (freeP s).take i ++ [(freeP s)[i]]) := take_snocN hin'
        have hqm := free_mem.1 (List.getElem_mem hin')
        generalize (freeP s)[i] = q at *
        have hql := (place_fit hsu hqm.1).2.1
        have hth : thingB s.W (2 * (q : Int)) = true := ref_thing sW hqm.1
        have h2q : 2 * (q : Int) / 2 = (q : Int) := by omega
        have hqi : (q : Int) < (s.W.length : Int) := by omega
        have hii : (i : Int) < ((freedT s).length : Int) := by omega
        have hwi := wrap_id (x := (i : Int) + 1) (by omega) (by omega)
        have hwq := wrap_id (x := (q : Int)) (by omega) (by omega)
        have hmc := HM.out.cell hql
        have hfz := HM.out.frozenAt q
        have hfbl : fb < wr.heap.size := by have := HB.out.size; omega
        have hrl' := hrow.lt
        have HRr : Hid (Row wr wb wo s.W) := hrow
        have h12 : Hid (∀ m, Calls Try.prog 9 #[.slice (some ⟨wb, wo, none⟩) s.W.length c0, .int .i64 (2 * (q : Int))] (wr.drewN m) fun e w' => e = .returned (.bool true) ∧ ∃ m', w' = wr.drewN m') := fun m => by
          have := rthing_any s.W wb wo c0 (2 * (q : Int)) (wr.drewN m) (hrow.same (below_drewN (Below.refl wr.heap.size wr) m)) hsu sW
          rw [hth] at this
          exact this.mono fun e w' h => ⟨h.1, m, h.2⟩
        have HN : Hid (∀ m, Marks ((wr.drewN m).setCell ⟨w6.heap.size, q, none⟩ (.bool true)) w6.heap.size s.W.length s.W.length (markF s.W.length ((freeP s).take (i + 1)))) := fun m => by
          rw [HQ.out, markF_snoc]
          exact (Marks.below HM.out (below_drewN (Below.refl wr.heap.size wr) m) hgl).set q
        clear hrow hfc hqm HQ
        go_upto_region 18 with fail
        go_quiet ((go_at_call 9; exact h12.out _))
        go_wp2_with fail
        go_roundw
        case rel => exact ⟨i + 1, by first | rfl | simp, by omega, HN.out _, (below_drewN HB.out _).setCell (p := ⟨w6.heap.size, q, none⟩) (Nat.le_refl _) _⟩
        case measure => simp [intOf]; omega
      · have hii : ¬ (i : Int) < ((freedT s).length : Int) := by omega
        have hall : (freeP s).take i = freeP s := List.take_of_length_le (by have := HFL.out; omega)
        rw [hall] at HM
        clear hall hin hrow
        go_upto_region 23 with fail
        go_loopw [16] (fun s16 wt => ∃ (p : Nat) (pre : List Nat), s16 = .int .i64 p ∧ Hid (AtPlace s.W [] pre p) ∧ wt = wr) (fun s16 _ => 3000 - (intOf s16).toNat)
        case atStart => exact ⟨2, [], rfl, ⟨rfl, hsu, Nat.le_refl _, hs2⟩, rfl⟩
        case round =>
          obtain ⟨p, pre, rfl, HA, rfl⟩ := hrel
          have hrow := HRW.out.below HB.out HRW.out.lt
          have hbl := hrow.lt
          by_cases hin : p < s.W.length
          · have hpi : (p : Int) < (s.W.length : Int) := by omega
            obtain ⟨hmem, _⟩ := HA.out.mem hin
            have hfo := fits_out (place_fit hsu hmem).2.2.1
            have HNX : Hid (AtPlace s.W [] (pre ++ [p]) (nextAt s.W p)) := HA.out.next hin
            have c1 := through HB.out (HM1.out.cell hin) hob6
            have c3 := HM.out.cell hin
            have hc2 := hrow.cell (p + 2) (by omega)
            have hsq : (wd s.W (p + 2)).tdiv 4 = (slotsAt s.W p : Nat) := by rw [Int.tdiv_eq_ediv_of_nonneg hfo.2.1]; unfold slotsAt; omega
            have hws := wrap_id (x := ((slotsAt s.W p : Nat) : Int)) (by omega) (by omega)
            have hwt := wrap_id (x := (p : Int) + 3 + ((slotsAt s.W p : Nat) : Int)) (by omega) (by omega)
            have hw2 := wrap_id (x := (p : Int) + 2) (by omega) (by omega)
            have hw3 := wrap_id (x := (p : Int) + 3) (by omega) (by omega)
            have hta2 : ((p : Int) + 2).toNat = p + 2 := by omega
            have hi2 : (p : Int) + 2 < (s.W.length : Int) := by omega
            have HSU : Hid ((p : Int) + 3 + ((slotsAt s.W p : Nat) : Int) = ((nextAt s.W p : Nat) : Int)) := by unfold nextAt; exact (by omega : (p : Int) + 3 + ((slotsAt s.W p : Nat) : Int) = ((p + 3 + slotsAt s.W p : Nat) : Int))
            obtain ⟨hx1, hx2⟩ := holds_at HI2.out hd HT1.out HT2.out hmem
            have HO : Hid (∀ k, k < W.length → wr.cell? ⟨ob2, k, none⟩ = some (.bool (bt B2 k))) := fun k hk => through HB.out (HM2.out.cell hk) hob26
            have hobr : ob < wr.heap.size := by have := HB.out.size; omega
            have hob2r : ob2 < wr.heap.size := by have := HB.out.size; omega
            clear HA hrow hmem
            cases h1 : bt B1 p with
            | true =>
              rw [h1] at c1
              rw [hx1 h1] at c3
              by_cases hpw : p < W.length
              · have hpwi : (p : Int) < (W.length : Int) := by omega
                have c2 := HO.out p hpw
                have h2t : bt B2 p = true := by cases hb2 : bt B2 p with
                  | true => rfl
                  | false => have := hx2 hpw hb2; rw [hx1 h1] at this; cases this
                rw [h2t] at c2
                clear hx1 hx2
                go_wp2_with fail
                go_roundw
                case rel => exact ⟨nextAt s.W p, pre ++ [p], by first | rfl | (rw [HSU.out]) | simp [HSU.out], HNX.out, by first | rfl | trivial⟩
                case measure => simp [intOf]; first | omega | (unfold nextAt; omega)
              · have hpwi : ¬ (p : Int) < (W.length : Int) := by omega
                clear hx1 hx2
                go_wp2_with fail
                go_roundw
                case rel => exact ⟨nextAt s.W p, pre ++ [p], by first | rfl | (rw [HSU.out]) | simp [HSU.out], HNX.out, by first | rfl | trivial⟩
                case measure => simp [intOf]; first | omega | (unfold nextAt; omega)
            | false =>
              rw [h1] at c1
              by_cases hpw : p < W.length
              · have hpwi : (p : Int) < (W.length : Int) := by omega
                have c2 := HO.out p hpw
                cases h2' : bt B2 p with
                | true =>
                  rw [h2'] at c2
                  clear hx1 hx2
                  go_wp2_with fail
                  go_roundw
                  case rel => exact ⟨nextAt s.W p, pre ++ [p], by first | rfl | (rw [HSU.out]) | simp [HSU.out], HNX.out, by first | rfl | trivial⟩
                  case measure => simp [intOf]; first | omega | (unfold nextAt; omega)
                | false =>
                  rw [h2'] at c2
                  rw [hx2 hpw h2'] at c3
                  clear hx1 hx2
                  go_wp2_with fail
                  go_roundw
                  case rel => exact ⟨nextAt s.W p, pre ++ [p], by first | rfl | (rw [HSU.out]) | simp [HSU.out], HNX.out, by first | rfl | trivial⟩
                  case measure => simp [intOf]; first | omega | (unfold nextAt; omega)
              · have hpwi : ¬ (p : Int) < (W.length : Int) := by omega
                clear hx1 hx2
                go_wp2_with fail
                go_roundw
                case rel => exact ⟨nextAt s.W p, pre ++ [p], by first | rfl | (rw [HSU.out]) | simp [HSU.out], HNX.out, by first | rfl | trivial⟩
                case measure => simp [intOf]; first | omega | (unfold nextAt; omega)
          · have hpi : ¬ (p : Int) < (s.W.length : Int) := by omega
            clear HA hrow
            go_wp2_with fail
            go_ret
            exact ⟨rfl, HW6.out.trans (HB.out.mono HW6.out.size)⟩

theorem walk (W roots : List Int) (ops : List OpT) (ad rad oad : Option Addr) (cap rcap ocap : Nat) (w : World) (hm : W.length ≤ maxLen) (hrm : roots.length ≤ maxLen) (hom : ops.length ≤ maxLen) (hr : WordsAt ad W w) (hcp : W.length ≤ cap) (hroots : RootsAt rad roots w) (hops : OpsAt oad ops w) :
    Calls Try.prog 3 #[.agg #[.slice ad W.length cap], .slice rad roots.length rcap, .slice oad ops.length ocap] w fun e w' => e = .returned (.bool true) ∧ Below w.heap.size w w' := by
  by_cases hl : W.length ≤ 5000 ∧ roots.length ≤ 5000
  · by_cases ho : ops.length ≤ 500
    · by_cases h : (rootsOf W roots).1 = 0
      · exact walk_yes W roots ops ad rad oad cap rcap ocap w hcp hl.2 ho hr hroots hops h
      · exact walk_no W roots ops ad rad oad cap rcap ocap w hl.1 hl.2 ho hr hroots hops h
    · exact many ad rad oad W.length cap roots.length rcap ops.length ocap w hl.1 hl.2 hom (by omega)
  · exact big ad rad oad W.length cap roots.length rcap ops.length ocap w hm hrm (by omega)

set_option maxRecDepth 100000 in
theorem lifted (os : Os) (started : os.Started) (H : Type) (enc : TypeId × Value → H) :
    ReturnsInHanded {} Try.checked os 3 .any (Rows.triHoldsSpec.pre6 enc Try.prog Try.f3 Rows.triHoldsRow.domain false) (Rows.triHoldsSpec.post enc Try.prog Try.f3 false true false false) := by
  refine returnsInHanded_of_change (C := Try.checked) own started (by kernel_rfl) Try.func3
    (ChangeSpec.witness6 (enc := enc) (C := Try.checked) false ⟨#[], #[.agg #[.slice none 0 0], .slice none 0 0, .slice none 0 0], []⟩ 8 (by kernel_rfl) (by kernel_rfl) (by kernel_rfl) (by kernel_rfl)) ?_
  intro W base args ds gs before hval0 hW hcnd _
  have hval : ∀ (j : Nat) t v, Try.f3.params[j]? = some t → args[j]? = some v → Value.okWide Try.prog W .any base t v := hval0
  have hW' := hW
  obtain ⟨p, q, hA0, hV, rfl, hfz, hnd⟩ := hW
  have hA : DataW.TrodAll enc Try.prog W 0 (fun _ => true) true Try.f3.params.toList args.toList ds p := hA0
  rw [Try.params3] at hA hval
  obtain ⟨v0, vs0, d0, ds0, p0, q0, hargs, rfl, rfl, h0, r0⟩ := trodAll_cons hA
  obtain ⟨v1, vs1, d1, ds1, p1, q1, rfl, rfl, rfl, h1, r1⟩ := trodAll_cons r0
  obtain ⟨v2, vs2, d2, ds2, p2, q2, rfl, rfl, rfl, h2, r2⟩ := trodAll_cons r1
  obtain ⟨rfl, rfl, rfl⟩ := trodAll_nil r2
  obtain rfl : args = #[v0, v1, v2] := by cases args; simp_all
  obtain ⟨rfl, rfl⟩ := trodVars_none hV
  have lt0 : ∀ x ∈ p0, x.block < W.heap.size := by obtain ⟨m, hm⟩ := h0; exact DataW.trod_lt m _ _ _ hm
  have lt1 : ∀ x ∈ p1, x.block < W.heap.size := by obtain ⟨m, hm⟩ := h1; exact DataW.trod_lt m _ _ _ hm
  have lt2 : ∀ x ∈ p2, x.block < W.heap.size := by obtain ⟨m, hm⟩ := h2; exact DataW.trod_lt m _ _ _ hm
  obtain ⟨ad0, cap0, L0, rfl, hm0, hr0, hcp0⟩ := open_heapC (hval 0 24 v0 rfl rfl) h0
  obtain ⟨ad1, cap1, L1, rfl, hm1, hr1⟩ := open_ints' (hval 1 22 v1 rfl rfl) h1
  obtain ⟨_, _, _, _, _, _, hopTy⟩ := opTyH
  obtain ⟨ad2, cap2, L2, rfl, hm2, hr2⟩ := open_opsT hopTy Try.underlying25 (hval 2 25 v2 rfl rfl) h2
  clear hA0 hval0
  refine (walk L0 L1 L2 ad0 ad1 ad2 cap0 cap1 cap2 W hm0 hm1 hm2 hr0 hcp0 hr1 hr2).mono fun e W' ⟨he, bel⟩ => ?_
  subst he
  exact ⟨_, rfl, _, _, _, [], _, [], hW', trodAll_mk1 (shut_bool lt4 _), (trodAll_cons_mk (Below.trod laidOut (by kernel_rfl) (of_decide_eq_true (by kernel_rfl)) h0 bel lt0) (trodAll_cons_mk (Below.trod laidOut (by kernel_rfl) (of_decide_eq_true (by kernel_rfl)) h1 bel lt1) (trodAll_cons_mk (Below.trod laidOut (by kernel_rfl) (of_decide_eq_true (by kernel_rfl)) h2 bel lt2) trodAll_mk0))), rfl, bel.frame _, fun h => by cases h⟩

theorem over : Rows.triHoldsRow.holds Try.pinned (OpenSpec.ofChange Rows.triHoldsSpec) :=
  OpenClaim.holds_of_wide 3 Try.f3 rfl rfl rfl rfl rfl rfl rfl ⟨rfl, rfl, rfl, rfl, rfl⟩ rfl rfl rfl rfl rfl (by kernel_rfl) Try.func3 (by kernel_rfl)
    (of_decide_eq_true (by kernel_rfl)) (by unfold Func.isWrapper; first | (rw [if_pos (by decide +kernel)]; kernel_rfl) | (rw [if_neg (by decide +kernel)]; exact ⟨rfl, rfl⟩))
    (fun os started H enc _ => lifted os started H enc)

end Go.Proofs.Ytabniplgibfgeaa.triHolds
namespace Go.Proofs.Ytabniplgibfgeaa
/-- The statement. -/
theorem triHolds_holds : Rows.TriHoldsSaid := triHolds.over
#print axioms triHolds_holds
end Go.Proofs.Ytabniplgibfgeaa

