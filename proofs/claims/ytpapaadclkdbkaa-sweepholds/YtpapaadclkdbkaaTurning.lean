/- sweep.movedTo, turning: what becomes of a reference. -/
import Derived.Test.YtpapaadclkdbkaaRelaid
import Derived.Test.YtpapaadclkdbkaaFrom
import Derived.Test.YtpapaadclkdbkaaIntMap
namespace Go.Proofs.Ytpapaadclkdbkaa
open Go.RowKit
open Go.Maps (Keyed keyOf_int_mk)

/-- What movedTo answers. -/
def MovedAns (W : List Int) (ps : List Nat) (B : Nat) (e : Ending) (w : World) : Prop := ∃ mm, e = .returned (.map (some mm)) ∧ B ≤ mm ∧ IntMap w mm ps.length (refAt W 2 ps)

set_option maxHeartbeats 4000000 in
theorem movedTo_any (W : List Int) (ps : List Nat) (b cap bm : Nat) (sad : Option Addr) (sc : Nat) (w : World) (hv : IsView w b cap bm W) (hs : RootsAt sad (refs ps) w) (hn : ps.Nodup) (hp : ∀ p ∈ ps, p ∈ places W 2) (hu : unfit W 2 = none) (h2 : 2 ≤ W.length) (hl : W.length ≤ 2000) :
    Calls Try.prog 64 #[viewV b W.length cap bm, .slice sad (refs ps).length sc] w fun e w' => MovedAns W ps w.heap.size e w' ∧ Below w.heap.size w w' := by
  have hmm := @run_makeMap Try.prog
  have HS : Hid (RootsAt sad (refs ps) w) := hs
  have hrl := refs_length ps
  have hlen : ps.length ≤ 2000 := by
    have := hn.length_le_of_subset hp
    have h3 := (places_nodup (W := W) _ 2 (Nat.le_refl _)).length_le_of_subset (l₂ := List.range W.length) fun p hp => List.mem_range.2 (place_ge hp).2
    rw [List.length_range] at h3; omega
  clear hs
  rw [hrl]
  clear hrl
  have hvA := (hv.alloc (.cells #[sl b W.length cap, .map (some bm)] 54)).alloc (.map #[] 0)
  go_enter Try.func64, Try.ntmps64
  go_wp2_with (go_at_call 66; refine (vfront_any W b cap bm _ hvA h2 hl).mono ?_; rintro e w1 ⟨⟨g1, k1, rfl, hg1, hown1⟩, hb1⟩)
  have hbW : Below w.heap.size w w1 := (((Below.refl _ _).alloc (Nat.le_refl _) _).alloc (by simp) _).trans (hb1.mono (by simp; omega))
  have hi1 : IntMap w1 (w.heap.size + 1) 0 (fun _ => none) := by
    have := IntMap.new (w.alloc (.cells #[sl b W.length cap, .map (some bm)] 54))
    simpa using this.below hb1 (by simp)
  have bx0 : w1.cell? ⟨w.heap.size, 0, none⟩ = some (sl b W.length cap) := by rw [hb1.cell (p := ⟨w.heap.size, 0, none⟩) (by simp; omega), cell_past _ (by simp), cell_at2 rfl]; rfl
  have bx1 : w1.cell? ⟨w.heap.size, 1, none⟩ = some (.map (some bm)) := by rw [hb1.cell (p := ⟨w.heap.size, 1, none⟩) (by simp; omega), cell_past _ (by simp), cell_at2 rfl]; rfl
  clear hvA hown1
  go_loopw [6, 15] (fun s6 s15 wr => ∃ (i S : Nat), s15 = .int .i64 i ∧ i ≤ ps.length ∧ s6 = .int .i64 (S : Int) ∧ Hid (S = 2 + roomSum W (ps.take i)) ∧ IntMap wr (w.heap.size + 1) i (refAt W 2 (ps.take i)) ∧ (wr.cell? ⟨w.heap.size, 0, none⟩ = some (sl b W.length cap) ∧ wr.cell? ⟨w.heap.size, 1, none⟩ = some (.map (some bm))) ∧ Below w.heap.size w wr) (fun _ s15 _ => ps.length - (intOf s15).toNat)
  case atStart => exact ⟨0, 2, rfl, Nat.zero_le _, rfl, rfl, hi1, ⟨bx0, bx1⟩, hbW⟩
  case round =>
    clear hi1 bx0 bx1 hbW hb1
    obtain ⟨i, S, rfl, hi, rfl, HS2, hm, ⟨bx0, bx1⟩, hB⟩ := hrel
    by_cases hlt : i < ps.length
    · obtain ⟨rb, ro, hsad, hrr⟩ := HS.out (by rw [refs_length]; omega)
      subst hsad
      have hcr := (hrr.same hB).cell i (by rw [refs_length]; exact hlt)
      rw [refs_wd hlt] at hcr
      have hmem := getD_mem' hlt
      have Hnot : Hid (ps.getD i 0 ∉ ps.take i) := take_not hn hlt
      have Htk : Hid (ps.take (i + 1) = ps.take i ++ [ps.getD i 0]) := take_snocN hlt
      generalize hq : ps.getD i 0 = q at *
      clear hq
      have hpl := hp q hmem
      have hge := place_ge hpl
      have hsum : S ≤ W.length := by rw [HS2.out]; exact roomSum_le (hn.sublist (List.take_sublist _ _)) (fun p hm => hp p (List.mem_of_mem_take hm)) h2 hu
      have HR : Hid (S + roomAt W q = 2 + roomSum W (ps.take (i + 1))) := by rw [Htk.out, roomSum_append, roomSum, roomSum, Nat.add_zero, HS2.out, Nat.add_assoc]; exact rfl
      have hroom : S + roomAt W q ≤ W.length := by rw [HR.out]; exact roomSum_le (hn.sublist (List.take_sublist _ _)) (fun p hm => hp p (List.mem_of_mem_take hm)) h2 hu
      have hwq : (Lit.int .i64 (2 * (q : Int))).wf = true := by go_wf
      have hwx : (Lit.int .i64 (2 * (S : Int))).wf = true := by go_wf
      have hvr := hv.same hB
      have hlr := hm.lt
      obtain ⟨n, D, hD, hDn, hDh, hDa⟩ := hm
      have hii : (i : Int) < (ps.length : Int) := by omega
      go_wp2_with (first | (at_mapUpdate; refine wpList_mapUpdate_own _ rfl _ _ _ 52 rfl 3 3 key3 ty59 (plainElem Try.prog 3) (w.heap.size + 1) n D rfl hD (by unfold maxLen; omega) _ _ _ rfl rfl (keyOf_int_mk ty3 hwq) _ [] (plainElem_int ty3 hwx) ?_; intro w3 hm3 hg3; have e0 : w3.cell? ⟨w.heap.size, 0, none⟩ = some (sl b W.length cap) := ((World.cell?_of_block (a := ⟨w.heap.size, 0, none⟩) (hg3.block w.heap.size (by omega) (by simp))).trans bx0); have e1 : w3.cell? ⟨w.heap.size, 1, none⟩ = some (.map (some bm)) := ((World.cell?_of_block (a := ⟨w.heap.size, 1, none⟩) (hg3.block w.heap.size (by omega) (by simp))).trans bx1); have hB3 : Below w.heap.size w w3 := hB.grown hg3 hB.size (fun k hk => by simp at hk; omega); have hz3 : w.heap.size + 1 < w3.heap.size := hm3.lt) | (go_at_call 79; refine (room_any W b cap bm q _ (hv.same hB3) hu hl hpl).mono ?_; rintro e w4 ⟨rfl, hb4⟩))
      have hput := IntMap.put hD hDn hDh hDa hm3
      have Hf : Hid ((fun k => if k = 2 * (q : Int) then some (2 * (S : Int)) else refAt W 2 (ps.take i) k) = refAt W 2 (ps.take (i + 1))) := by
        rw [Htk.out, refAt_snoc W _ _ _ Hnot.out, HS2.out]; exact rfl
      rw [Hf.out] at hput
      go_roundw
      case rel => exact ⟨i + 1, S + roomAt W q, by first | rfl | simp, by omega, by first | rfl | simp, HR, hput.below hb4 (by omega), ⟨through hb4 e0 (by dsimp only; omega), through hb4 e1 (by dsimp only; omega)⟩, hB3.trans (hb4.mono hB3.size)⟩
      case measure => simp [intOf]; omega
    · have he : i = ps.length := by omega
      subst he
      go_wp2_with fail
      go_ret
      refine ⟨⟨w.heap.size + 1, rfl, by omega, ?_⟩, hB⟩
      rw [List.take_length] at hm; exact hm

/-- What turning's closure leans on: its two boxes, its map, its view. -/
structure TurnI (W : List Int) (ps : List Nat) (b cap bm Bm Bv mm : Nat) (w : World) : Prop where
  box : w.cell? ⟨Bm, 0, none⟩ = some (.map (some mm))
  v0 : w.cell? ⟨Bv, 0, none⟩ = some (sl b W.length cap)
  v1 : w.cell? ⟨Bv, 1, none⟩ = some (.map (some bm))
  map : IntMap w mm ps.length (refAt W 2 ps)
  view : IsView w b cap bm W
theorem TurnI.below {W : List Int} {ps : List Nat} {b cap bm Bm Bv mm : Nat} {w w' : World} (h : TurnI W ps b cap bm Bm Bv mm w) (hb : Below w.heap.size w w') : TurnI W ps b cap bm Bm Bv mm w' :=
  ⟨through hb h.box (World.block_lt_of_cell? _ _ h.box), through hb h.v0 (World.block_lt_of_cell? _ _ h.v0), through hb h.v1 (World.block_lt_of_cell? _ _ h.v1), h.map.below hb h.map.lt, h.view.same hb⟩

set_option maxHeartbeats 1000000 in
theorem turning1_any (W : List Int) (ps : List Nat) (b cap bm Bm Bv mm : Nat) (o : Int) (w : World) (h : TurnI W ps b cap bm Bm Bv mm w) (hp : ∀ p ∈ ps, p ∈ places W 2) (hl : W.length ≤ 2000) (ho : (Lit.int .i64 o).wf = true) :
    Calls Try.prog 65 #[.int .i64 o, .pointer (some ⟨Bm, 0, none⟩), .pointer (some ⟨Bv, 0, none⟩)] w fun e w' => e = .returned (.int .i64 (turnP W ps o)) ∧ Below w.heap.size w w' := by
  have ht := turn_refAt hp hl o
  obtain ⟨n, D, hD, hDn, hDh, hDa⟩ := h.map
  have hho := hDh o
  obtain ⟨x0, x1, x2⟩ := And.intro h.box (And.intro h.v0 h.v1)
  have y0 := World.block_lt_of_cell? _ _ x0
  have y1 := World.block_lt_of_cell? _ _ x1
  cases hf : refAt W 2 ps o with
  | some x =>
    have hax := hDa o x hf
    rw [hf] at ht hho
    simp only [Option.isSome_some] at hho
    have HT : Hid (turnP W ps o = x) := ht
    clear ht hDh hDa hf
    go_enter Try.func65, Try.ntmps65
    go_wp2_with (at_lookup; refine wpList_lookup_own_ok_int _ rfl _ _ 52 rfl 3 3 .i64 key3 ty59 ty3 (zero3 _) mm n D rfl hD _ _ rfl (keyOf_int_mk ty3 ho) ?_; intro c hat hwc; have hcs : c = x := (by rw [hax] at hat; simp at hat; exact hat.symm); subst hcs; clear hat hwc)
    go_ret
    exact ⟨by rw [HT.out]; rfl, Below.refl _ _⟩
  | none =>
    rw [hf] at ht hho
    simp only [Option.isSome_none] at hho
    cases hT : thingB W o with
    | true =>
      have HT : Hid (turnP W ps o = 0) := by rw [hT] at ht; exact ht
      clear ht hDh hDa hf
      go_enter Try.func65, Try.ntmps65
      go_wp2_with (first | (at_lookup; refine wpList_lookup_own_ok_int _ rfl _ _ 52 rfl 3 3 .i64 key3 ty59 ty3 (zero3 _) mm n D rfl hD _ _ rfl (keyOf_int_mk ty3 ho) ?_; intro c hat hwc; clear hat hwc) | (go_at_call 31; refine (has_any W b cap bm _ _ h.view).mono ?_; rintro e w1 ⟨rfl, hb1⟩))
      go_ret
      exact ⟨by rw [HT.out]; rfl, hb1⟩
    | false =>
      have HT : Hid (turnP W ps o = o) := by rw [hT] at ht; exact ht
      clear ht hDh hDa hf
      go_enter Try.func65, Try.ntmps65
      go_wp2_with (first | (at_lookup; refine wpList_lookup_own_ok_int _ rfl _ _ 52 rfl 3 3 .i64 key3 ty59 ty3 (zero3 _) mm n D rfl hD _ _ rfl (keyOf_int_mk ty3 ho) ?_; intro c hat hwc; clear hat hwc) | (go_at_call 31; refine (has_any W b cap bm _ _ h.view).mono ?_; rintro e w1 ⟨rfl, hb1⟩))
      go_ret
      exact ⟨by rw [HT.out]; rfl, hb1⟩

theorem turning_enters (args : Array Value) (w : World) : Sem.run Try.prog (callFunc 65 args) w = .ok (.enter 65 args) w := by kernel_rfl
theorem turning_turns (W : List Int) (ps : List Nat) (b cap bm Bm Bv mm : Nat) (hp : ∀ p ∈ ps, p ∈ places W 2) (hl : W.length ≤ 2000) :
    Turns 65 #[.pointer (some ⟨Bm, 0, none⟩), .pointer (some ⟨Bv, 0, none⟩)] (turnP W ps) (TurnI W ps b cap bm Bm Bv mm) :=
  ⟨turning_enters, fun _ _ h hb => h.below hb, fun o w h ho => turning1_any W ps b cap bm Bm Bv mm o w h hp hl ho⟩

/-- What turning answers. -/
def TurningAns (W : List Int) (ps : List Nat) (b cap bm : Nat) (e : Ending) (w : World) : Prop :=
  ∃ Bm Bv mm, e = .returned (.func (.func 65) #[] #[.pointer (some ⟨Bm, 0, none⟩), .pointer (some ⟨Bv, 0, none⟩)]) ∧ TurnI W ps b cap bm Bm Bv mm w

set_option maxHeartbeats 1000000 in
theorem turning_any (W : List Int) (ps : List Nat) (b cap bm : Nat) (sad : Option Addr) (sc : Nat) (w : World) (hv : IsView w b cap bm W) (hs : RootsAt sad (refs ps) w) (hn : ps.Nodup) (hp : ∀ p ∈ ps, p ∈ places W 2) (hu : unfit W 2 = none) (h2 : 2 ≤ W.length) (hl : W.length ≤ 2000) :
    Calls Try.prog 36 #[viewV b W.length cap bm, .slice sad (refs ps).length sc] w fun e w' => TurningAns W ps b cap bm e w' ∧ Below w.heap.size w w' := by
  have HS : Hid (RootsAt sad (refs ps) w) := hs
  clear hs
  go_enter Try.func36, Try.ntmps36
  go_wp2_with (go_at_call 64; refine (movedTo_any W ps b cap bm sad sc _ (hv.alloc _) (HS.out.below ((Below.refl _ _).alloc (Nat.le_refl _) _)) hn hp hu h2 hl).mono ?_; rintro e w1 ⟨⟨mm, rfl, hmm, hmap⟩, hb1⟩; obtain ⟨bx0, bx1⟩ := box_cells hb1)
  go_ret
  have hbW := below_call hb1
  have hlt : w.heap.size < w1.heap.size := by have := hb1.size; simp at this; omega
  refine ⟨⟨w1.heap.size, w.heap.size, mm, rfl, ?_, ?_, ?_, ?_, ?_⟩, ?_⟩
  · rw [cell_at2 rfl]; rfl
  · rw [cell_past _ (by dsimp only; omega)]; exact bx0
  · rw [cell_past _ (by dsimp only; omega)]; exact bx1
  · exact hmap.below ((Below.refl _ _).alloc (Nat.le_refl _) _) hmap.lt
  · exact (hv.same hbW).alloc _
  · exact hbW.alloc (by omega) _
end Go.Proofs.Ytpapaadclkdbkaa
