/- image.listsOf: the lists that stand in bytes, or what is wrong first. -/
import Derived.Test.YtdacgjjkgagjhacReadMark
import Derived.Test.YtdacgjjkgagjhacCatch
namespace Go.Proofs.Ytdacgjjkgagjhac
open Go.RowKit

set_option maxHeartbeats 1000000 in
theorem end_ok (rb cap : Nat) (ad : Option Addr) (b : List Int) (w : World) (h : Rd w rb ad cap b b.length) :
    Calls Try.prog 42 #[.pointer (some ⟨rb, 0, none⟩)] w fun e w' => e = .returned (.tuple #[]) ∧ ∃ n, w' = w.drewN n := by
  have c0 := h.c0
  have c1 := h.c1
  go_enter Try.func42, Try.ntmps42
  go_wp2_with fail
  go_quiet (fail)
  go_wp2_with fail
  first | go_end0 | refine bodyPost_ret (results_none rfl _ _ _) rfl ?_
  exact ⟨rfl, _, rfl⟩
set_option maxHeartbeats 1000000 in
theorem end_bad (rb cap p : Nat) (ad : Option Addr) (b : List Int) (w : World) (h : Rd w rb ad cap b p) (hp : p < b.length) :
    Calls Try.prog 42 #[.pointer (some ⟨rb, 0, none⟩)] w fun e w' => GivesUp (9, p) rb w e w' := by
  have c0 := h.c0
  have c1 := h.c1
  have hm := h.many
  unfold maxLen at hm
  have hlt : (p : Int) < (b.length : Int) := by omega
  go_enter Try.func42, Try.ntmps42
  go_wp2_with fail
  go_quiet (fail)
  go_wp2_with fail
  exact ⟨rfl, rfl, grown_drewN _ _ _⟩

/-- The lists that stand in b, or what is wrong first. -/
def listsP (b : List Int) : Except (Int × Int) (List Int × List Int) :=
  match markP b with
  | some f => .error f
  | none => match listAt b 2 2 2000 with
    | .error e => .error e
    | .ok (W, p) => match listAt b p 0 600 with
      | .error e => .error e
      | .ok (R, q) => if q < b.length then .error (9, (q : Int)) else .ok (W, R)
theorem numAt_eight {b : List Int} {p : Nat} {f : Int × Int} (h : numAt b p = .error f) : f.1 = 8 → f.2 = b.length := by
  unfold numAt at h
  cases hd : decN b p 9 0 0 with
  | short => rw [hd] at h; simp only [Except.error.injEq] at h; subst h; exact fun _ => rfl
  | form => rw [hd] at h; simp only [Except.error.injEq] at h; subst h; intro h; simp at h
  | num u k => rw [hd] at h; cases h
theorem numsAt_eight {b : List Int} : ∀ (n p : Nat) (f : Int × Int), numsAt b n p = .error f → f.1 = 8 → f.2 = b.length
  | 0, p, f, h => by simp [numsAt] at h
  | n + 1, p, f, h => by
    rw [numsAt] at h
    cases h1 : numAt b p with
    | error e => rw [h1] at h; simp only [Except.error.injEq] at h; subst h; exact numAt_eight h1
    | ok xq =>
      rw [h1] at h
      simp only at h
      cases h2 : numsAt b n xq.2 with
      | error e => rw [h2] at h; simp only [Except.error.injEq] at h; subst h; exact numsAt_eight n xq.2 _ h2
      | ok lr => rw [h2] at h; cases h
theorem listAt_eight {b : List Int} {p : Nat} {least most : Int} {f : Int × Int} (h : listAt b p least most = .error f) : f.1 = 8 → f.2 = b.length := by
  unfold listAt at h
  cases h1 : numAt b p with
  | error e => rw [h1] at h; simp only [Except.error.injEq] at h; subst h; exact numAt_eight h1
  | ok xq =>
    rw [h1] at h
    simp only at h
    split at h
    · simp only [Except.error.injEq] at h; subst h; intro h; simp at h
    · exact numsAt_eight _ _ _ h
theorem markP_eight {b : List Int} {f : Int × Int} (h : markP b = some f) : f.1 = 8 → f.2 = b.length := by
  unfold markP at h
  split at h
  · simp only [Option.some.injEq] at h; subst h; intro h; simp at h
  · split at h
    · simp only [Option.some.injEq] at h; subst h; exact fun _ => rfl
    · cases h

/-- What listsOf tells. -/
def ListsEnd (B : Nat) (R : Except (Int × Int) (List Int × List Int)) (e : Ending) (w' : World) : Prop :=
  match R with
  | .error f => e = .returned (.tuple #[.slice none 0 0, .slice none 0 0, .agg #[.int .i64 f.1, .int .i64 f.2]])
  | .ok (W, R) => ∃ g g', e = .returned (.tuple #[sl g W.length W.length, sl g' R.length R.length, .agg #[.int .i64 0, .int .i64 0]]) ∧ Fill w' g W.length W ∧ Fill w' g' R.length R ∧ B ≤ g ∧ B ≤ g'

/-- The boxes of listsOf. -/
theorem rd_start (w : World) (ad : Option Addr) (cap : Nat) (b : List Int) (h : BytesAt ad b w) (hm : b.length ≤ maxLen) :
    Rd (((w.alloc (.cells #[.slice ad b.length cap] 33)).alloc (.cells #[.int .i64 0, .int .i64 0] 27)).alloc (.cells #[.slice ad b.length cap, .int .i64 0] 76)) (w.heap.size + 1 + 1) ad cap b 0 := by
  refine ⟨?_, ?_, ?_, by simp, h.1, fun h0 => ?_, hm, Nat.zero_le _⟩
  · rw [cell_at2 (by simp)]; rfl
  · rw [cell_at2 (by simp)]; rfl
  · rw [frozen_at2 (by simp)]
  · obtain ⟨g, off, e, r⟩ := h.2 h0
    have hl := r.lt
    exact ⟨g, off, e, by omega, r.same ((((Below.refl _ _).alloc (Nat.le_refl _) _).alloc (by simp) _).alloc (by simp; omega) _)⟩
/-- What the boxes hold behind calls of the reader. -/
theorem boxes_rd {w w' : World} {x y1 y2 : Value} {t t' : TypeId} {o : Obj} (hg : (((w.alloc (.cells #[x] t)).alloc (.cells #[y1, y2] t')).alloc o).grownBy w' (some (w.heap.size + 1 + 1))) :
    w'.cell? ⟨w.heap.size, 0, none⟩ = some x ∧ w'.cell? ⟨w.heap.size + 1, 0, none⟩ = some y1 ∧ w'.cell? ⟨w.heap.size + 1, 1, none⟩ = some y2 ∧ w'.frozen? ⟨w.heap.size + 1, 0, none⟩ = false ∧ w'.frozen? ⟨w.heap.size + 1, 1, none⟩ = false ∧ w.heap.size + 1 + 1 < w'.heap.size ∧ Below w.heap.size w w' := by
  have hs := hg.size
  have b0 := hg.block w.heap.size (by simp; omega) (by simp; omega)
  have b1 := hg.block (w.heap.size + 1) (by simp) (by simp)
  refine ⟨?_, ?_, ?_, ?_, ?_, by simp at hs; omega, ?_⟩
  · rw [World.cell?_of_block (a := ⟨w.heap.size, 0, none⟩) b0, cell_past _ (by simp; omega), cell_past _ (by simp), cell_at2 rfl]; rfl
  · rw [World.cell?_of_block (a := ⟨w.heap.size + 1, 0, none⟩) b1, cell_past _ (by simp), cell_at2 (by simp)]; rfl
  · rw [World.cell?_of_block (a := ⟨w.heap.size + 1, 1, none⟩) b1, cell_past _ (by simp), cell_at2 (by simp)]; rfl
  · rw [World.frozen?_of_block (a := ⟨w.heap.size + 1, 0, none⟩) b1, frozen_past _ (by simp), frozen_at2 (by simp)]
  · rw [World.frozen?_of_block (a := ⟨w.heap.size + 1, 1, none⟩) b1, frozen_past _ (by simp), frozen_at2 (by simp)]
  · have b3 : Below w.heap.size w (((w.alloc (.cells #[x] t)).alloc (.cells #[y1, y2] t')).alloc o) := (((Below.refl _ _).alloc (Nat.le_refl _) _).alloc (by simp) _).alloc (by simp; omega) _
    exact b3.grown hg (by simp; omega) (fun k hk => by simp at hk; omega)

set_option maxHeartbeats 1000000 in
/-- What a reader gave up by is told. -/
theorem door_bad {w w2 : World} {ad : Option Addr} {cap : Nat} {b : List Int} {f : Int × Int} {t t' : TypeId} {o : Obj} (h8 : f.1 = 8 → f.2 = b.length) (hg : (((w.alloc (.cells #[.slice ad b.length cap] t)).alloc (.cells #[.int .i64 0, .int .i64 0] t')).alloc o).grownBy w2 (some (w.heap.size + 1 + 1)))
    (x0 x1 x5 x6 x7 x8 x9 x10 x11 x12 x13 x14 x15 x16 x17 x18 x19 x20 x21 x22 : Value) :
    bodyPostD Try.prog Try.f25 (fun e w' => ListsEnd w.heap.size (.error f) e w' ∧ Below w.heap.size w w') (Exit.panic [{ v := whyV f, recovered := false }]) { tmps := #[x0, x1, .slice none 0 0, .slice none 0 0, .pointer (some ⟨w.heap.size + 1, 0, none⟩), x5, x6, x7, x8, x9, x10, x11, x12, x13, x14, x15, x16, x17, x18, x19, x20, x21, x22], defers := [{ target := Target.fn (Fn.func 39) #[.pointer (some ⟨w.heap.size, 0, none⟩), .pointer (some ⟨w.heap.size + 1, 0, none⟩)], args := #[] }] } w2 := by
  obtain ⟨c0, c1, c2, z1, z2, hs, hb⟩ := boxes_rd hg
  have hl0 : w.heap.size < w2.heap.size := by omega
  have hl1 : w.heap.size + 1 < w2.heap.size := by omega
  obtain ⟨f1, f2⟩ := f
  by_cases h : f1 = 8
  · have e2 := h8 h
    simp only at e2
    subst h
    subst e2
    refine leaves_cons (f := 39) (args := #[.pointer (some ⟨w.heap.size, 0, none⟩), .pointer (some ⟨w.heap.size + 1, 0, none⟩)]) (by simp) (by simp [go_sem]) ?_
    refine (catch_ended w.heap.size (w.heap.size + 1) ad b.length cap _ _ [] w2 c0 c1 c2 z1 z2 hl0 hl1).mono ?_
    rintro e u' w'' ⟨rfl, rfl, rfl⟩
    have k1 : (((w2.alloc (.cells #[] 71)).setCell ⟨w.heap.size + 1, 0, none⟩ (.int .i64 8)).setCell ⟨w.heap.size + 1, 1, none⟩ (.int .i64 (b.length : Int))).cell? ⟨w.heap.size + 1, 0, none⟩ = some (.int .i64 8) := by
      rw [World.cell?_setCell_other _ _ _ _ (by simp)]; exact World.cell?_setCell_same' _ _ _ (by rw [cell_past _ hl1, c1]; rfl)
    have k2 : (((w2.alloc (.cells #[] 71)).setCell ⟨w.heap.size + 1, 0, none⟩ (.int .i64 8)).setCell ⟨w.heap.size + 1, 1, none⟩ (.int .i64 (b.length : Int))).cell? ⟨w.heap.size + 1, 1, none⟩ = some (.int .i64 (b.length : Int)) :=
      World.cell?_setCell_same' _ _ _ (by rw [World.cell?_setCell_other _ _ _ _ (by simp), cell_past _ hl1, c2]; rfl)
    refine ⟨.tuple #[.slice none 0 0, .slice none 0 0, .agg #[.int .i64 8, .int .i64 (b.length : Int)]], ?_, rfl, ?_⟩
    · simp [results, Try.results25, go_sem, k1, k2]
    · exact ((hb.alloc (by omega) _).setCell (by dsimp only; omega) _).setCell (by dsimp only; omega) _
  · have hv : whyV (f1, f2) = .iface 73 (.agg #[.int .i64 f1, .int .i64 f2]) := by unfold whyV; rw [if_neg h]
    rw [hv]
    refine leaves_cons (f := 39) (args := #[.pointer (some ⟨w.heap.size, 0, none⟩), .pointer (some ⟨w.heap.size + 1, 0, none⟩)]) (by simp) (by simp [go_sem]) ?_
    refine (catch_wrong ⟨w.heap.size, 0, none⟩ (w.heap.size + 1) f1 f2 _ _ [] w2 c1 c2 z1 z2 hl1).mono ?_
    rintro e u' w'' ⟨rfl, rfl, rfl⟩
    have k1 : (((w2.alloc (.cells #[.int .i64 f1, .int .i64 f2] 73)).setCell ⟨w.heap.size + 1, 0, none⟩ (.int .i64 f1)).setCell ⟨w.heap.size + 1, 1, none⟩ (.int .i64 f2)).cell? ⟨w.heap.size + 1, 0, none⟩ = some (.int .i64 f1) := by
      rw [World.cell?_setCell_other _ _ _ _ (by simp)]; exact World.cell?_setCell_same' _ _ _ (by rw [cell_past _ hl1, c1]; rfl)
    have k2 : (((w2.alloc (.cells #[.int .i64 f1, .int .i64 f2] 73)).setCell ⟨w.heap.size + 1, 0, none⟩ (.int .i64 f1)).setCell ⟨w.heap.size + 1, 1, none⟩ (.int .i64 f2)).cell? ⟨w.heap.size + 1, 1, none⟩ = some (.int .i64 f2) :=
      World.cell?_setCell_same' _ _ _ (by rw [World.cell?_setCell_other _ _ _ _ (by simp), cell_past _ hl1, c2]; rfl)
    refine ⟨.tuple #[.slice none 0 0, .slice none 0 0, .agg #[.int .i64 f1, .int .i64 f2]], ?_, rfl, ?_⟩
    · simp [results, Try.results25, go_sem, k1, k2]
    · exact ((hb.alloc (by omega) _).setCell (by dsimp only; omega) _).setCell (by dsimp only; omega) _

set_option maxHeartbeats 2000000 in
theorem listsOf_any (ad : Option Addr) (cap : Nat) (b : List Int) (w : World) (h : BytesAt ad b w) (hm : b.length ≤ maxLen) :
    Calls Try.prog 25 #[.slice ad b.length cap] w fun e w' => ListsEnd w.heap.size (listsP b) e w' ∧ Below w.heap.size w w' := by
  have hmf : ∀ (fn : Fn) (first cap : Array Value) (w : World), (Instr.makeFunc fn first cap).run Try.prog w = .ok (.func fn first cap) w := fun _ _ _ _ => rfl
  have H0 := rd_start w ad cap b h hm
  have H : Hid (Rd (((w.alloc (.cells #[.slice ad b.length cap] 33)).alloc (.cells #[.int .i64 0, .int .i64 0] 27)).alloc (.cells #[.slice ad b.length cap, .int .i64 0] 76)) (w.heap.size + 1 + 1) ad cap b 0) := H0
  clear H0 h hm
  cases hf : markP b with
  | some f =>
    have HP : Hid (listsP b = .error f) := by
      have : listsP b = .error f := by unfold listsP; rw [hf]
      exact this
    have Hm : Hid (∀ w0, Rd w0 (w.heap.size + 1 + 1) ad cap b 0 → Calls Try.prog 40 #[.pointer (some ⟨w.heap.size + 1 + 1, 0, none⟩)] w0 fun e w' => GivesUp f (w.heap.size + 1 + 1) w0 e w') := fun w0 h0 => (mark_any' _ cap ad b w0 h0).mono fun e w' hp => by unfold MarkEnd at hp; rw [hf] at hp; exact hp
    have H8 : Hid (f.1 = 8 → f.2 = b.length) := markP_eight hf
    rw [HP.out]
    clear hf
    go_enter_defers Try.func25, Try.ntmps25
    go_wp2_with (first | (go_at_call 40; refine (Hm.out _ H.out).mono ?_; rintro e w2 ⟨rfl, hg2⟩))
    exact door_bad H8.out hg2 _ _ _ _ _ _ _ _ _ _ _ _ _ _ _ _ _ _ _ _
  | none =>
    have Hm : Hid (∀ w0, Rd w0 (w.heap.size + 1 + 1) ad cap b 0 → Calls Try.prog 40 #[.pointer (some ⟨w.heap.size + 1 + 1, 0, none⟩)] w0 fun e w' => e = .returned (.tuple #[]) ∧ Rd w' (w.heap.size + 1 + 1) ad cap b 2 ∧ w0.grownBy w' (some (w.heap.size + 1 + 1))) := fun w0 h0 => (mark_any' _ cap ad b w0 h0).mono fun e w' hp => by unfold MarkEnd at hp; rw [hf] at hp; exact hp
    cases l1 : listAt b 2 2 2000 with
    | error f =>
      have HP : Hid (listsP b = .error f) := by
        have : listsP b = .error f := by unfold listsP; rw [hf, l1]
        exact this
      have Hl : Hid (∀ w0, Rd w0 (w.heap.size + 1 + 1) ad cap b 2 → Calls Try.prog 41 #[.pointer (some ⟨w.heap.size + 1 + 1, 0, none⟩), .int .i64 2, .int .i64 2000] w0 fun e w' => GivesUp f (w.heap.size + 1 + 1) w0 e w') := fun w0 h0 => (list_any _ cap 2 2 2000 ad b w0 h0 (by omega) (by omega) (by omega) (by omega)).mono fun e w' hp => by unfold ListEnd at hp; rw [l1] at hp; exact hp
      have H8 : Hid (f.1 = 8 → f.2 = b.length) := listAt_eight l1
      rw [HP.out]
      clear hf l1
      go_enter_defers Try.func25, Try.ntmps25
      go_wp2_with (first | (go_at_call 40; refine (Hm.out _ H.out).mono ?_; rintro e w2 ⟨rfl, hr2, hg2⟩) | (go_at_call 41; refine (Hl.out _ hr2).mono ?_; rintro e w3 ⟨rfl, hg3⟩))
      exact door_bad H8.out (grown_trans hg2 hg3) _ _ _ _ _ _ _ _ _ _ _ _ _ _ _ _ _ _ _ _
    | ok Wp =>
      obtain ⟨W, p⟩ := Wp
      have Hl : Hid (∀ w0, Rd w0 (w.heap.size + 1 + 1) ad cap b 2 → Calls Try.prog 41 #[.pointer (some ⟨w.heap.size + 1 + 1, 0, none⟩), .int .i64 2, .int .i64 2000] w0 fun e w' => ∃ g, e = .returned (sl g W.length W.length) ∧ w0.heap.size ≤ g ∧ Fill w' g W.length W ∧ Rd w' (w.heap.size + 1 + 1) ad cap b p ∧ w0.grownBy w' (some (w.heap.size + 1 + 1))) := fun w0 h0 => (list_any _ cap 2 2 2000 ad b w0 h0 (by omega) (by omega) (by omega) (by omega)).mono fun e w' hp => by unfold ListEnd at hp; rw [l1] at hp; exact hp
      cases l2 : listAt b p 0 600 with
      | error f =>
        have HP : Hid (listsP b = .error f) := by
          have : listsP b = .error f := by unfold listsP; rw [hf, l1]; simp only [l2]
          exact this
        have Hk : Hid (∀ w0, Rd w0 (w.heap.size + 1 + 1) ad cap b p → Calls Try.prog 41 #[.pointer (some ⟨w.heap.size + 1 + 1, 0, none⟩), .int .i64 0, .int .i64 600] w0 fun e w' => GivesUp f (w.heap.size + 1 + 1) w0 e w') := fun w0 h0 => (list_any _ cap p 0 600 ad b w0 h0 (by omega) (by omega) (by omega) (by omega)).mono fun e w' hp => by unfold ListEnd at hp; rw [l2] at hp; exact hp
        have H8 : Hid (f.1 = 8 → f.2 = b.length) := listAt_eight l2
        rw [HP.out]
        clear hf l1 l2
        go_enter_defers Try.func25, Try.ntmps25
        go_wp2_with (first | (go_at_call 40; refine (Hm.out _ H.out).mono ?_; rintro e w2 ⟨rfl, hr2, hg2⟩) | (go_at_call_of 41 (Value.int IntKind.i64 2000); refine (Hl.out _ hr2).mono ?_; rintro e w3 ⟨g3, rfl, hg3', hf3, hr3, hg3⟩) | (go_at_call_of 41 (Value.int IntKind.i64 600); refine (Hk.out _ hr3).mono ?_; rintro e w4 ⟨rfl, hg4⟩))
        exact door_bad H8.out (grown_trans (grown_trans hg2 hg3) hg4) _ _ _ _ _ _ _ _ _ _ _ _ _ _ _ _ _ _ _ _
      | ok Rq =>
        obtain ⟨R, q⟩ := Rq
        have Hk : Hid (∀ w0, Rd w0 (w.heap.size + 1 + 1) ad cap b p → Calls Try.prog 41 #[.pointer (some ⟨w.heap.size + 1 + 1, 0, none⟩), .int .i64 0, .int .i64 600] w0 fun e w' => ∃ g, e = .returned (sl g R.length R.length) ∧ w0.heap.size ≤ g ∧ Fill w' g R.length R ∧ Rd w' (w.heap.size + 1 + 1) ad cap b q ∧ w0.grownBy w' (some (w.heap.size + 1 + 1))) := fun w0 h0 => (list_any _ cap p 0 600 ad b w0 h0 (by omega) (by omega) (by omega) (by omega)).mono fun e w' hp => by unfold ListEnd at hp; rw [l2] at hp; exact hp
        by_cases hq : q < b.length
        · have HP : Hid (listsP b = .error (9, q)) := by
            have : listsP b = .error (9, q) := by unfold listsP; rw [hf, l1]; simp only [l2]; rw [if_pos hq]
            exact this
          have He : Hid (∀ w0, Rd w0 (w.heap.size + 1 + 1) ad cap b q → Calls Try.prog 42 #[.pointer (some ⟨w.heap.size + 1 + 1, 0, none⟩)] w0 fun e w' => GivesUp (9, q) (w.heap.size + 1 + 1) w0 e w') := fun w0 h0 => end_bad _ cap q ad b w0 h0 hq
          have H8 : Hid (((9, (q : Int)) : Int × Int).1 = 8 → ((9, (q : Int)) : Int × Int).2 = b.length) := fun h => by simp at h
          rw [HP.out]
          clear hf l1 l2 hq
          go_enter_defers Try.func25, Try.ntmps25
          go_wp2_with (first | (go_at_call 40; refine (Hm.out _ H.out).mono ?_; rintro e w2 ⟨rfl, hr2, hg2⟩) | (go_at_call_of 41 (Value.int IntKind.i64 2000); refine (Hl.out _ hr2).mono ?_; rintro e w3 ⟨g3, rfl, hg3', hf3, hr3, hg3⟩) | (go_at_call_of 41 (Value.int IntKind.i64 600); refine (Hk.out _ hr3).mono ?_; rintro e w4 ⟨g4, rfl, hg4', hf4, hr4, hg4⟩) | (go_at_call 42; refine (He.out _ hr4).mono ?_; rintro e w5 ⟨rfl, hg5⟩))
          exact door_bad H8.out (grown_trans (grown_trans (grown_trans hg2 hg3) hg4) hg5) _ _ _ _ _ _ _ _ _ _ _ _ _ _ _ _ _ _ _ _
        · have HP : Hid (listsP b = .ok (W, R)) := by
            have : listsP b = .ok (W, R) := by unfold listsP; rw [hf, l1]; simp only [l2]; rw [if_neg hq]
            exact this
          have He : Hid (∀ w0, Rd w0 (w.heap.size + 1 + 1) ad cap b q → Calls Try.prog 42 #[.pointer (some ⟨w.heap.size + 1 + 1, 0, none⟩)] w0 fun e w' => e = .returned (.tuple #[]) ∧ ∃ n, w' = w0.drewN n) := fun w0 h0 => by
            have hle := h0.le
            have : q = b.length := by omega
            subst this
            exact end_ok _ cap ad b w0 h0
          rw [HP.out]
          clear hf l1 l2 hq
          go_enter_defers Try.func25, Try.ntmps25
          go_wp2_with (first | (go_at_call 40; refine (Hm.out _ H.out).mono ?_; rintro e w2 ⟨rfl, hr2, hg2⟩) | (go_at_call_of 41 (Value.int IntKind.i64 2000); refine (Hl.out _ hr2).mono ?_; rintro e w3 ⟨g3, rfl, hg3', hf3, hr3, hg3⟩) | (go_at_call_of 41 (Value.int IntKind.i64 600); refine (Hk.out _ hr3).mono ?_; rintro e w4 ⟨g4, rfl, hg4', hf4, hr4, hg4⟩) | (go_at_call 42; refine (He.out _ hr4).mono ?_; rintro e w5 ⟨rfl, n5, rfl⟩; have hgg := (grown_trans (grown_trans (grown_trans hg2 hg3) hg4) (grown_drewN w4 n5 _)); obtain ⟨c0, c1, c2, z1, z2, hs, hb⟩ := boxes_rd hgg; have hl1 : w.heap.size + 1 < (w4.drewN n5).heap.size := (by omega)))
          have hlt2 := hr2.lt
          have hs3 := hg3.size
          have hf4' : Fill w4 g3 W.length W := hf3.other hg4 (by omega)
          have hfW := (hf4'.other (grown_drewN w4 n5 (some (w.heap.size + 1 + 1))) (by omega)).other (grown_set _ (w.heap.size + 1) 0 (.int .i64 0)) (by omega) |>.other (grown_set _ (w.heap.size + 1) 1 (.int .i64 0)) (by omega)
          have hfR := (hf4.other (grown_drewN w4 n5 (some (w.heap.size + 1 + 1))) (by omega)).other (grown_set _ (w.heap.size + 1) 0 (.int .i64 0)) (by omega) |>.other (grown_set _ (w.heap.size + 1) 1 (.int .i64 0)) (by omega)
          have k1 : (((w4.drewN n5).setCell ⟨w.heap.size + 1, 0, none⟩ (.int .i64 0)).setCell ⟨w.heap.size + 1, 1, none⟩ (.int .i64 0)).cell? ⟨w.heap.size + 1, 0, none⟩ = some (.int .i64 0) := by
            rw [World.cell?_setCell_other _ _ _ _ (by simp)]; exact World.cell?_setCell_same' _ _ _ (by rw [c1]; rfl)
          have k2 : (((w4.drewN n5).setCell ⟨w.heap.size + 1, 0, none⟩ (.int .i64 0)).setCell ⟨w.heap.size + 1, 1, none⟩ (.int .i64 0)).cell? ⟨w.heap.size + 1, 1, none⟩ = some (.int .i64 0) :=
            World.cell?_setCell_same' _ _ _ (by rw [World.cell?_setCell_other _ _ _ _ (by simp), c2]; rfl)
          refine leaves_cons (f := 39) (args := #[.pointer (some ⟨w.heap.size, 0, none⟩), .pointer (some ⟨w.heap.size + 1, 0, none⟩)]) (by simp) (by simp [go_sem]) ?_
          refine (catch_idle ⟨w.heap.size, 0, none⟩ ⟨w.heap.size + 1, 0, none⟩ _).mono ?_
          rintro e u' w'' ⟨rfl, rfl, rfl⟩
          refine ⟨.tuple #[sl g3 W.length W.length, sl g4 R.length R.length, .agg #[.int .i64 0, .int .i64 0]], ?_, ⟨g3, g4, rfl, hfW, hfR, by omega, by omega⟩, ?_⟩
          · simp only [results, Try.results25]; simp [go_sem, k1, k2]
          · exact (hb.setCell (by dsimp only; omega) _).setCell (by dsimp only; omega) _
end Go.Proofs.Ytdacgjjkgagjhac
