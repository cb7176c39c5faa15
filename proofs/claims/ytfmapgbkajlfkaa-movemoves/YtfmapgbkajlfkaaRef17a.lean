/- gessoref17: copyOf, now. -/
import Derived.Test.YtfmapgbkajlfkaaToPlain
import Derived.Test.YtfmapgbkajlfkaaChePlain
import Derived.Test.YtfmapgbkajlfkaaOwnKit
import Derived.Test.YtfmapgbkajlfkaaRefHeap
import Derived.Maps.AppendAt
namespace Go.Proofs.Ytfmapgbkajlfkaa
open Go.RowKit

theorem own_wd {w : World} {B g n c i : Nat} {xs : List Int} (h : w.ownsRow B 3 1 (sl g n c) n (vals xs)) (hi : i < n) : w.cell? ⟨g, i, none⟩ = some (.int .i64 (wd xs i)) := by
  have hl : xs.length = n := by have := h.1; simpa using this
  rw [h.cellAt i (by omega)]
  unfold wd
  simp [List.getElem?_map, List.getElem?_eq_getElem (show i < xs.length by omega)]
/-- The words of some things, as they were. -/
def oldW (W : List Int) (qs : List Nat) : List Int := wd W 0 :: wd W 1 :: qs.flatMap (thingW id W)
theorem oldW_snoc (W : List Int) (qs : List Nat) (p : Nat) : oldW W (qs ++ [p]) = oldW W qs ++ thingW id W p := by unfold oldW; simp
theorem oldW_length {W : List Int} {qs : List Nat} (h : ∀ p ∈ qs, p + 3 + slotsAt W p ≤ W.length) : (oldW W qs).length = 2 + roomSum W qs := by
  unfold oldW; simp only [List.length_cons, flat_length qs h]; omega
theorem slotsW_id (W : List Int) (p : Nat) : slotsW id W p = slotList W p := by unfold slotsW; split <;> simp
theorem thing_old {W : List Int} {p j : Nat} (hj : j < roomAt W p) : wd (thingW id W p) j = wd W (p + j) := by
  unfold thingW
  rw [slotsW_id]
  match j, hj with
  | 0, _ => rfl
  | 1, _ => rfl
  | 2, _ => rfl
  | j + 3, hj =>
    show wd (slotList W p) j = _
    rw [slotList_at (by unfold roomAt at hj; omega), show p + (j + 3) = p + 3 + j by omega]
theorem thing_row {w : World} {b off : Nat} {W : List Int} {p : Nat} (hr : Row w b off W) (h : p + 3 + slotsAt W p ≤ W.length) : Row w b (off + p) (thingW id W p) := by
  refine ⟨hr.lt, fun k hk => ?_, fun k => ?_⟩
  · rw [thingW_length h] at hk
    rw [thing_old hk, Nat.add_assoc]
    exact hr.cell (p + k) (by unfold roomAt at hk; omega)
  · by_cases hk : k < roomAt W p
    · rw [thing_old hk]; exact hr.wf _
    · have : wd (thingW id W p) k = 0 := by unfold wd; rw [List.getD_eq_getElem?_getD, List.getElem?_eq_none (by rw [thingW_length h]; omega)]; rfl
      rw [this]; decide
/-- Where Move stands: those of f are there, as they were. -/
structure MvR (w : World) (W : List Int) (b off B tb g n c : Nat) (f : List Int) : Prop where
  row : Row w b off W
  low : b < B
  tlow : B ≤ tb
  size : n = (oldW W (f.map pl2)).length
  own : w.ownsRow B 3 1 (sl g n c) n (vals (oldW W (f.map pl2)))
  came : ∃ T, TOk T W (f.map pl2) ∧ w.ownsRow 0 3 1 (sl tb W.length W.length) W.length (vals T)
  apart : g ≠ tb
  once : f.Nodup
  thing : ∀ o ∈ f, thingB W o = true
theorem pl_thing {W : List Int} {o : Int} (h : thingB W o = true) : pl2 o ∈ places W 2 ∧ o = 2 * (pl2 o : Int) := by
  obtain ⟨p, e, hm, _, hp⟩ := thing_ref h
  have : pl2 o = p := hp
  rw [this]; exact ⟨hm, e⟩
theorem pl_once {W f : List Int} (hn : f.Nodup) (ht : ∀ o ∈ f, thingB W o = true) : (f.map pl2).Nodup := by
  unfold List.Nodup; rw [List.pairwise_map]
  refine List.Pairwise.imp_of_mem (fun {a b} ha hb hne e => ?_) hn
  have ea := (pl_thing (ht a ha)).2
  have eb := (pl_thing (ht b hb)).2
  rw [ea, eb, e] at hne; exact hne rfl
theorem pl_mem {W f : List Int} {o : Int} (ht : ∀ o ∈ f, thingB W o = true) (ho : thingB W o = true) : pl2 o ∈ f.map pl2 ↔ o ∈ f := by
  rw [List.mem_map]
  constructor
  · rintro ⟨x, hx, e⟩
    have ex := (pl_thing (ht x hx)).2
    have eo := (pl_thing ho).2
    rw [e, ← eo] at ex; rw [← ex]; exact hx
  · intro h; exact ⟨o, h, rfl⟩
namespace MvR
variable {w : World} {W f : List Int} {b off B tb g n c : Nat}
theorem place (h : MvR w W b off B tb g n c f) : ∀ p ∈ f.map pl2, p ∈ places W 2 := fun p hp => by
  obtain ⟨o, ho, rfl⟩ := List.mem_map.1 hp
  exact (pl_thing (h.thing o ho)).1
theorem sum (h : MvR w W b off B tb g n c f) (hf : Fine W) (h2 : 2 ≤ W.length) : 2 + roomSum W (f.map pl2) ≤ W.length ∧ n = 2 + roomSum W (f.map pl2) := by
  have h1 := roomSum_sub W _ (places W 2) (pl_once h.once h.thing) h.place
  have h3 := places_sum _ 2 (Nat.le_refl _) h2 hf.fit
  refine ⟨by omega, ?_⟩
  rw [h.size, oldW_length fun p hp => hf.room p (h.place p hp)]
theorem same (h : MvR w W b off B tb g n c f) {w' : World} (hb : ∀ k, k < w.heap.size → w'.heap[k]? = w.heap[k]?) (hs : w.heap.size ≤ w'.heap.size) : MvR w' W b off B tb g n c f := by
  obtain ⟨T, hT, hTo⟩ := h.came
  exact ⟨⟨by have := h.row.lt; omega, fun k hk => by rw [World.cell?_of_block (hb b h.row.lt)]; exact h.row.cell k hk, h.row.wf⟩, h.low, h.tlow, h.size,
    own_same h.own fun k e => hb k (h.own.lt k e).2, ⟨T, hT, own_same hTo fun k e => hb k (hTo.lt k e).2⟩, h.apart, h.once, h.thing⟩
end MvR
theorem come_one (W f : List Int) (o : Int) : come W f [o] = if o ∉ f ∧ thingB W o = true then f ++ [o] else f := rfl
theorem newAt_pos {W : List Int} : ∀ {qs : List Nat} {top p : Nat}, p ∈ qs → top ≤ newAt W top qs p
  | q :: r, top, p, h => by
    rw [newAt]
    split
    · exact Nat.le_refl _
    · rename_i hq
      rcases List.mem_cons.1 h with e | e
      · exact absurd e.symm hq
      · exact Nat.le_trans (by unfold roomAt; omega) (newAt_pos (W := W) (top := top + roomAt W q) e)
set_option maxRecDepth 20000 in
set_option maxHeartbeats 4000000 in
theorem rcopy_any (W : List Int) (b off cap B tb g n c : Nat) (f : List Int) (o : Int) (w : World) (h : MvR w W b off B tb g n c f) (hB : B ≤ w.heap.size) (hf : Fine W) (h2 : 2 ≤ W.length) (hcap : W.length ≤ cap) (ho : okRef W o) :
    Calls Try.prog 24 #[.slice (some ⟨b, off, none⟩) W.length cap, sl tb W.length W.length, sl g n c, .int .i64 o] w fun e w' => ∃ g' n' c', e = .returned (sl g' n' c') ∧ MvR w' W b off B tb g' n' c' (come W f [o]) ∧ Below B w w' := by
  by_cases hk : kindOf o = 3
  · have ht := ok_thing ho hk
    obtain ⟨p, he, hmem, hpl, hp2⟩ := thing_ref ht
    have hpp : pl2 o = p := hp2
    have hkk := kind3 hk
    have h2p : 2 * (p : Int) / 2 = (p : Int) := by omega
    have hw0 := wrap_id (x := (p : Int)) (by omega) (by omega)
    have hii : (p : Int) < (W.length : Int) := by omega
    have h0p : (0 : Int) ≤ (p : Int) := by omega
    obtain ⟨T, hT, hTo⟩ := id h.came
    have hcp := own_wd hTo hpl
    have htl := own_lt hTo
    by_cases hin : o ∈ f
    · have HC : Hid (come W f [o] = f) := by rw [come_one, if_neg (fun h => h.1 hin)]; exact rfl
      have hX : 0 < wd T p := by
        rw [hT.2 p]
        have := newAt_pos (W := W) (top := 2) (List.mem_map.2 ⟨o, hin, hpp⟩)
        omega
      have HH : Hid (MvR w W b off B tb g n c f) := h
      subst he
      generalize wd T p = X at *
      clear ht ho hT hTo hkk hin h hpp hp2
      go_enter Try.func24, Try.ntmps24
      go_wp2_with (go_at_call 43; refine (rkind_any _ _).mono ?_; rintro e w' ⟨rfl, rfl⟩; rw [hk])
      go_ret
      exact ⟨g, n, c, rfl, by rw [HC.out]; exact HH.out, Below.refl _ _⟩
    · have HC : Hid (come W f [o] = f ++ [o]) := by rw [come_one, if_pos ⟨hin, ht⟩]; exact rfl
      have hnot : p ∉ f.map pl2 := by rw [← hpp, pl_mem h.thing ht]; exact hin
      have hX : wd T p = 0 := by rw [hT.2 p, newAt_none hnot]; rfl
      obtain ⟨hs1, hs2⟩ := h.sum hf h2
      have hroom := hf.room p hmem
      have hfo := fits_out (place_fit hf.fit hmem).2.2.1
      have hfew := hf.few
      have HT' : Hid (TOk (T.set p (n : Int)) W ((f ++ [o]).map pl2)) := by
        have := hT.set hpl hnot
        rw [List.map_append, List.map_cons, List.map_nil, hpp, hs2]; exact this
      have hst := (hTo.stored p (.int .i64 (n : Int))).1
      rw [show (vals T).set p (.int .i64 (n : Int)) = vals (T.set p (n : Int)) by simp [vals, List.map_set]] at hst
      have hfw := hTo.frozenAt p
      have hrow := h.row
      have hbt : b ≠ tb := by have := h.low; have := h.tlow; omega
      have hgt := h.apart
      have hnew : (oldW W ((f ++ [o]).map pl2)) = oldW W (f.map pl2) ++ thingW id W p := by rw [List.map_append, List.map_cons, List.map_nil, hpp, oldW_snoc]
      have hsum' : 2 + roomSum W (f.map pl2) + roomAt W p ≤ 2000 := by
        have h1 := roomSum_sub W (f.map pl2 ++ [p]) (places W 2) (by rw [List.nodup_append]; exact ⟨pl_once h.once h.thing, by simp, fun a ha d hd => by rw [List.mem_singleton] at hd; subst hd; exact fun e => hnot (e ▸ ha)⟩) (fun q hq => by
          rcases List.mem_append.1 hq with hq | hq
          · exact h.place q hq
          · rw [List.mem_singleton] at hq; subst hq; exact hmem)
        have h3 := places_sum _ 2 (Nat.le_refl _) h2 hf.fit
        rw [roomSum_append, roomSum, roomSum] at h1
        omega
      have hrow1 : Row (w.setCell ⟨tb, p, none⟩ (.int .i64 (n : Int))) b off W := ⟨by have := hrow.lt; simpa using this, fun k hk => by rw [World.cell?_of_block (Below.heap_setCell _ _ _ _ hbt)]; exact hrow.cell k hk, hrow.wf⟩
      have hown1 := ownsRow_setCell_other h.own (a := ⟨tb, p, none⟩) (fun e => hgt (by injection e)) (.int .i64 (n : Int))
      have hc2 := hrow1.cell (p + 2) (by omega)
      have hsq : (wd W (p + 2)).tdiv 4 = (slotsAt W p : Nat) := by rw [Int.tdiv_eq_ediv_of_nonneg hfo.2.1]; unfold slotsAt; omega
      have hws := wrap_id (x := ((slotsAt W p : Nat) : Int)) (by omega) (by omega)
      have hwr2 := wrap_id (x := (p : Int) + 2) (by omega) (by omega)
      have hwr3 := wrap_id (x := (p : Int) + 3) (by omega) (by omega)
      have hwt := wrap_id (x := (p : Int) + 3 + ((slotsAt W p : Nat) : Int)) (by omega) (by omega)
      have HNR : Hid (∀ j u, (vals (thingW id W p))[j]? = some u → (w.setCell ⟨tb, p, none⟩ (.int .i64 (n : Int))).cell? ((⟨b, off + p, none⟩ : Addr).add j) = some u) := row_news (thing_row hrow1 hroom)
      have hc2w := hrow.cell (p + 2) (by omega)
      have hbl := hrow.lt
      have hlen : (thingW id W p).length = roomAt W p := thingW_length hroom
      have HLN : Hid ((thingW id W p).length = roomAt W p) := hlen
      have hra : roomAt W p = 3 + slotsAt W p := rfl
      have HN : Hid (oldW W ((f ++ [o]).map pl2) = oldW W (f.map pl2) ++ thingW id W p) := hnew
      have HS : Hid (n = 2 + roomSum W (f.map pl2)) := hs2
      have HH : Hid (MvR w W b off B tb g n c f) := h
      have HON : Hid ((f ++ [o]).Nodup ∧ ∀ x ∈ f ++ [o], thingB W x = true) := ⟨by rw [List.nodup_append]; exact ⟨h.once, by simp, fun a ha d hd => by rw [List.mem_singleton] at hd; subst hd; exact fun e => hin (e ▸ ha)⟩, fun x hx => by
        rcases List.mem_append.1 hx with hx | hx
        · exact h.thing x hx
        · rw [List.mem_singleton] at hx; subst hx; exact ht⟩
      have HST : Hid ((w.setCell ⟨tb, p, none⟩ (.int .i64 (n : Int))).ownsRow 0 3 1 (sl tb W.length W.length) W.length (vals (T.set p (n : Int)))) := hst
      have HOW : Hid ((w.setCell ⟨tb, p, none⟩ (.int .i64 (n : Int))).ownsRow B 3 1 (sl g n c) n (vals (oldW W (f.map pl2)))) := hown1
      have hn2 : n + roomAt W p ≤ 2000 := by omega
      have hcp0 : w.cell? ⟨tb, p, none⟩ = some (.int .i64 0) := by rw [← hX]; exact hcp
      have hbb : b ≠ tb ∧ B ≤ tb := ⟨hbt, h.tlow⟩
      have hcn : ¬ cap = p := by omega
      have hA1 : (0 : Int) ≤ (p : Int) + 3 + ((slotsAt W p : Nat) : Int) := by omega
      have hA2 : (p : Int) + 3 + ((slotsAt W p : Nat) : Int) ≤ (cap : Int) := by omega
      have hA3 : (p : Int) ≤ (p : Int) + 3 + ((slotsAt W p : Nat) : Int) := by omega
      have hA4 : ((p : Int) + 3 + ((slotsAt W p : Nat) : Int)).toNat - p = roomAt W p := by omega
      have hi2 : (p : Int) + 2 < (W.length : Int) := by omega
      have ht2 : ((p : Int) + 2).toNat = p + 2 := by omega
      obtain ⟨i0, hi, hz0, hz1, hz2⟩ := info_parts info3
      subst he
      clear ho hs2 hs1 hnew hT hTo hcp hst hown1 h hlen hsum' hX hc2 hrow1 hrow hra hfew hin hpp hnot hp2 hkk ht hbt
      go_enter Try.func24, Try.ntmps24
      go_wp2_with (first | (go_at_call 43; refine (rkind_any _ _).mono ?_; rintro e w' ⟨rfl, rfl⟩; rw [hk]) | (at_builtin; go_must (refine wpList_append_own_at _ rfl (.tmp 29) (.tmp 44) 22 rfl B 3 i0 (.int .i64 0) 1 8 ty30 hi hz0 hz1 hz2 rfl (by decide) (sl g n c) n (vals (oldW W (f.map pl2))) rfl HOW.out ⟨b, off + p, none⟩ (roomAt W p) (cap - p) (vals (thingW id W p)) rfl (by simp [HLN.out]) HNR.out (ints_oneCell _ _) (by unfold maxLen; omega) (by omega) (by simpa using hB) ?_); intro v' w3 hown3 hgrow3 hnil3 hat3))
      obtain ⟨g3, c3, rfl, hg3, hown30⟩ := own_shape hown3 (fun e => by have := (hnil3.1 e).1; cases this)
      have hsz3 := hgrow3.size
      have hk3 : ∀ k, k < w'.heap.size → k ≠ tb → k ≠ g → w3.heap[k]? = w'.heap[k]? := fun k h1 h2 h3 => (hgrow3.block k (by simpa using h1) (fun e => h3 (by injection e))).trans (Below.heap_setCell _ _ _ _ h2)
      have hgl := own_lt HH.out.own
      have hgB : B ≤ g := (HH.out.own.lt g rfl).1
      have hlow := HH.out.low
      have hgt3 : g3 ≠ tb := by
        rcases hat3 with e | e
        · have e' : g3 = g := by injection e
          rw [e']; exact hgt
        · have e' : g3 = (w'.setCell ⟨tb, p, none⟩ (.int .i64 (n : Int))).heap.size := by injection e
          simp at e'; omega
      go_ret
      refine ⟨g3, n + roomAt W p, c3, rfl, ?_, ?_⟩
      · rw [HC.out]
        refine ⟨?_, hlow, hbb.2, ?_, ?_, ⟨_, HT'.out, ?_⟩, hgt3, HON.out.1, HON.out.2⟩
        · have hr := HH.out.row
          exact ⟨by simp at hsz3; omega, fun k hk => by rw [World.cell?_of_block (hk3 b hbl hbb.1 (by omega))]; exact hr.cell k hk, hr.wf⟩
        · rw [HN.out, List.length_append, HLN.out, ← HH.out.size]
        · rw [HN.out, show vals (oldW W (f.map pl2) ++ thingW id W p) = vals (oldW W (f.map pl2)) ++ vals (thingW id W p) by simp [vals]]
          exact hown3
        · exact own_same HST.out fun k e => by
            injection e with e; subst e
            exact hgrow3.block tb (by simpa using htl) (fun e => hgt (by injection e with e; exact e.symm))
      · exact ((Below.refl B w').setCell (p := ⟨tb, p, none⟩) hbb.2 _).grown hgrow3 (by simpa using hB) (fun k e => by have e' : g = k := (by injection e); omega)
  · have HC : Hid (come W f [o] = f) := by rw [come_one, if_neg (fun h => hk (thing_kind h.2))]; exact rfl
    have hb : (kindOf o != 3) = true := by simpa using hk
    have HH : Hid (MvR w W b off B tb g n c f) := h
    clear ho hk h
    go_enter Try.func24, Try.ntmps24
    go_wp2_with (go_at_call 43; refine (rkind_any _ _).mono ?_; rintro e w' ⟨rfl, rfl⟩)
    go_ret
    exact ⟨g, n, c, rfl, by rw [HC.out]; exact HH.out, Below.refl _ _⟩
theorem rnow17_any (T W : List Int) (ps : List Nat) (tb c : Nat) (o : Int) (w : World) (hr : ∀ k, k < W.length → w.cell? ⟨tb, k, none⟩ = some (.int .i64 (wd T k))) (hlt : tb < w.heap.size) (hT : TOk T W ps) (hs : 2 + roomSum W ps ≤ 2000) (ho : okRef W o) :
    Calls Try.prog 25 #[.slice (some ⟨tb, 0, none⟩) W.length c, .int .i64 o] w fun e w' => e = .returned (.int .i64 (turnP W ps o)) ∧ w' = w := by
  by_cases hk : kindOf o = 3
  · have ht := ok_thing ho hk
    obtain ⟨p, he, _, hpl, hp2⟩ := thing_ref ht
    have hkk := kind3 hk
    have h2p : 2 * (p : Int) / 2 = (p : Int) := by omega
    have HT : Hid (turnP W ps o = 2 * wd T p) := by
      unfold turnP; rw [if_pos ht, hT.2 p]
      have : pl2 o = p := hp2
      rw [this]; exact rfl
    have hcp := hr p hpl
    have hb := hT.bounds hs p
    have hii : (p : Int) < (W.length : Int) := by omega
    have hw0 := wrap_id (x := (p : Int)) (by omega) (by omega)
    subst he
    generalize wd T p = x at *
    clear ht ho hT hkk hr
    go_enter Try.func25, Try.ntmps25
    go_wp2_with (go_at_call 43; refine (rkind_any _ _).mono ?_; rintro e w' ⟨rfl, rfl⟩; rw [hk])
    go_ret
    exact ⟨by rw [HT.out]; rfl, rfl⟩
  · have HT : Hid (turnP W ps o = o) := by
      unfold turnP; rw [if_neg (fun h => hk (thing_kind h))]; exact rfl
    have hb : (kindOf o != 3) = true := by simpa using hk
    clear ho hT hk hr
    go_enter Try.func25, Try.ntmps25
    go_wp2_with (go_at_call 43; refine (rkind_any _ _).mono ?_; rintro e w' ⟨rfl, rfl⟩)
    go_ret
    exact ⟨by rw [HT.out]; rfl, rfl⟩
/-! Where the words lie. -/
theorem come_snoc (W : List Int) : ∀ (xs f : List Int) (o : Int), come W f (xs ++ [o]) = come W (come W f xs) [o]
  | [], _, _ => rfl
  | _ :: xs, _, o => come_snoc W xs _ o
theorem come_ext (W : List Int) : ∀ (xs f : List Int), ∃ t, come W f xs = f ++ t
  | [], f => ⟨[], by simp [come]⟩
  | x :: xs, f => by
    unfold come
    obtain ⟨t, e⟩ := come_ext W xs (if x ∉ f ∧ thingB W x = true then f ++ [x] else f)
    rw [e]
    split
    · exact ⟨x :: t, by simp⟩
    · exact ⟨t, rfl⟩
theorem roomSum_next (W : List Int) (qs : List Nat) {k : Nat} (hk : k < qs.length) : roomSum W (qs.take (k + 1)) = roomSum W (qs.take k) + roomAt W qs[k] := by
  rw [List.take_succ_eq_append_getElem hk, roomSum_append, roomSum, roomSum]; omega
theorem oldW_at {W : List Int} {qs : List Nat} (hr : ∀ p ∈ qs, p + 3 + slotsAt W p ≤ W.length) {k j : Nat} (hk : k < qs.length) (hj : j < roomAt W qs[k]) : wd (oldW W qs) (2 + roomSum W (qs.take k) + j) = wd W (qs[k] + j) := by
  have e : oldW W qs = oldW W (qs.take k) ++ (thingW id W qs[k] ++ (qs.drop (k + 1)).flatMap (thingW id W)) := by
    have e2 : qs = qs.take k ++ qs[k] :: qs.drop (k + 1) := by rw [← List.drop_eq_getElem_cons hk, List.take_append_drop]
    have e3 : qs.flatMap (thingW id W) = (qs.take k).flatMap (thingW id W) ++ (thingW id W qs[k] ++ (qs.drop (k + 1)).flatMap (thingW id W)) := by
      conv => lhs; rw [e2]
      rw [List.flatMap_append, List.flatMap_cons]
    unfold oldW; rw [e3]; rfl
  rw [e, wd_right (oldW_length fun p hp => hr p (List.mem_of_mem_take hp)), wd_left (by rw [thingW_length (hr _ (List.getElem_mem hk))]; exact hj), thing_old hj]
/-- Where the k-th of f stands. -/
def atF (W f : List Int) (k : Nat) : Nat := 2 + roomSum W ((f.map pl2).take k)
theorem pl_at {f : List Int} {k : Nat} (hk : k < f.length) : (f.map pl2)[k]'(by simpa using hk) = pl2 (wd f k) := by
  rw [List.getElem_map]; unfold wd; rw [List.getD_eq_getElem?_getD, List.getElem?_eq_getElem hk]; rfl
theorem atF_next {W f : List Int} {k : Nat} (hk : k < f.length) : atF W f (k + 1) = atF W f k + roomAt W (pl2 (wd f k)) := by
  unfold atF; rw [roomSum_next W _ (by simpa using hk), pl_at hk]; omega
theorem atF_all (W f : List Int) : atF W f f.length = 2 + roomSum W (f.map pl2) := by
  unfold atF; rw [List.take_of_length_le (by simp)]
theorem atF_ext {W f : List Int} (t : List Int) {k : Nat} (hk : k ≤ f.length) : atF W (f ++ t) k = atF W f k := by
  unfold atF; rw [List.map_append, List.take_append_of_le_length (by simpa using hk)]
theorem atF_le (W f : List Int) (k : Nat) : atF W f k ≤ 2 + roomSum W (f.map pl2) := by
  unfold atF
  conv => rhs; rw [← List.take_append_drop k (f.map pl2), roomSum_append]
  omega
theorem MvR.read {w : World} {W f : List Int} {b off B tb g n c : Nat} (h : MvR w W b off B tb g n c f) (hf : Fine W) (h2 : 2 ≤ W.length) {k j : Nat} (hk : k < f.length) (hj : j < roomAt W (pl2 (wd f k))) :
    w.cell? ⟨g, atF W f k + j, none⟩ = some (.int .i64 (wd W (pl2 (wd f k) + j))) ∧ atF W f k + j < n := by
  have hn := (h.sum hf h2).2
  have h1 := atF_next (W := W) hk
  have h3 := atF_le W f (k + 1)
  have hlt : atF W f k + j < n := by omega
  refine ⟨?_, hlt⟩
  rw [own_wd h.own hlt]
  have := oldW_at (W := W) (qs := f.map pl2) (fun p hp => hf.room p (h.place p hp)) (k := k) (j := j) (by simpa using hk) (by rw [pl_at hk]; exact hj)
  rw [pl_at hk] at this
  unfold atF; rw [this]
end Go.Proofs.Ytfmapgbkajlfkaa
