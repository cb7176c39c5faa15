/- What E3 says, in plain: both ways done twice is nothing; numbers of the machine stay so. -/
import Derived.Test.YtgggmdanpdggpacBecKit
import Derived.Test.YtgggmdanpdggpacMoveMore
namespace Go.Proofs.Ytgggmdanpdggpac
open Go.RowKit

theorem bec_one {L : List (Int × Int)} {a : Int} (h : becAt true L a = none) : becAt false L a = none := by
  rw [bec_none] at h ⊢
  exact fun q hq => ⟨(h q hq).1, fun h => (by cases h)⟩
theorem Pairs2.one {W F T : List Int} (P : Pairs2 W F T true) : Pairs2 W F T false :=
  ⟨P.long, P.kind, fun j hj => twice_no.2 ⟨fun h => (by cases h), bec_one (twice_no.1 (P.once j hj)).2.1, fun h => (by cases h)⟩⟩
theorem Pairs2.again {W F T : List Int} {both : Bool} {t : Int → Int} (P : Pairs2 W F T both) (h2 : 2 ≤ W.length) (hu : unfit W 2 = none) : Pairs2 (renW t W) F T both :=
  ⟨P.long, fun j hj => by have := P.kind j hj; unfold oddAt at this ⊢; rw [ren_thing h2 hu, ren_thing h2 hu]; exact this, P.once⟩
theorem thing_wf {W : List Int} {o : Int} (h : thingB W o = true) : (Lit.int .i64 o).wf = true := by
  obtain ⟨p, rfl, _⟩ := thing_ref h
  have := kind3 (thing_out h).1
  go_wf
theorem Leads.wf {W : List Int} {t : Int → Int} (h : Leads W t) {o : Int} (ho : (Lit.int .i64 o).wf = true) : (Lit.int .i64 (t o)).wf = true := by
  rcases h o with e | e
  · rw [e]; exact ho
  · exact thing_wf e
theorem ren_wf {W : List Int} {t : Int → Int} (hT : Leads W t) (h : AllWf W) : AllWf (renW t W) := by
  refine wf_mk fun x hx => ?_
  unfold renW at hx
  rcases List.mem_cons.1 hx with rfl | hx
  · exact h 0
  rcases List.mem_cons.1 hx with rfl | hx
  · exact h 1
  obtain ⟨p, hp, hx⟩ := List.mem_flatMap.1 hx
  unfold thingW at hx
  rcases List.mem_cons.1 hx with rfl | hx
  · exact hT.wf (h p)
  rcases List.mem_cons.1 hx with rfl | hx
  · exact h (p + 1)
  rcases List.mem_cons.1 hx with rfl | hx
  · exact h (p + 2)
  have hs : ∀ y ∈ slotList W p, (Lit.int .i64 y).wf = true := fun y hy => by
    unfold slotList at hy
    exact wf_mem h (List.mem_of_mem_drop (List.mem_of_mem_take hy))
  unfold slotsW at hx
  split at hx
  · exact hs x hx
  · obtain ⟨y, hy, rfl⟩ := List.mem_map.1 hx
    exact hT.wf (hs y hy)
theorem map_wf {W R : List Int} {t : Int → Int} (hT : Leads W t) (h : AllWf R) : AllWf (R.map t) := by
  refine wf_mk fun x hx => ?_
  obtain ⟨y, hy, rfl⟩ := List.mem_map.1 hx
  exact hT.wf (wf_mem h hy)
/-- Behind both ways nothing stands against both ways. -/
theorem again_fault {W F T roots : List Int} (h : (becFault W roots F T true).1 = 0) : (becFault (renW (otherP true (F.zip T)) W) (roots.map (otherP true (F.zip T))) F T true).1 = 0 := by
  obtain ⟨h0, P⟩ := fault_ok h
  obtain ⟨hc, _, _⟩ := roots_zero h0
  have F0 := fine_of hc
  have h2 := (front_out (check_fine hc).1).1
  have hck := ren_check hc P.leads
  have hro := rootsOf_ok (W := renW (otherP true (F.zip T)) W) (roots := roots.map (otherP true (F.zip T))) (by rw [hck]) (fun y hy => by
    obtain ⟨x, hx, rfl⟩ := List.mem_map.1 hy
    rw [ren_ok h2 F0.fit]; exact P.leads.ok (ok_rootsOf h0 x hx))
  unfold becFault
  rw [hro, if_pos rfl, (P.again h2 F0.fit).wrong]
theorem again_same {W F T roots : List Int} (h : (becFault W roots F T true).1 = 0) : renW (otherP true (F.zip T)) (renW (otherP true (F.zip T)) W) = W ∧ (roots.map (otherP true (F.zip T))).map (otherP true (F.zip T)) = roots := by
  obtain ⟨h0, P⟩ := fault_ok h
  obtain ⟨hc, _, _⟩ := roots_zero h0
  have F0 := fine_of hc
  have h2 := (front_out (check_fine hc).1).1
  have ht := other_twice P.good
  refine ⟨ren_twice h2 F0.fit ht, ?_⟩
  rw [List.map_map, show otherP true (F.zip T) ∘ otherP true (F.zip T) = id from funext ht, List.map_id]
theorem one_of_two {W F T roots : List Int} (h : (becFault W roots F T true).1 = 0) : (becFault W roots F T false).1 = 0 := by
  obtain ⟨h0, P⟩ := fault_ok h
  unfold becFault; rw [if_pos h0, P.one.wrong]
theorem Reads.of_roots {w : World} {rad : Option Addr} {c : Nat} {xs : List Int} (h : RootsAt rad xs w) : Reads w (.slice rad xs.length c) xs :=
  ⟨rad, c, rfl, fun h0 => by obtain ⟨b, off, e, r⟩ := h h0; exact ⟨b, off, e, r.lt, r.cell⟩⟩
theorem lit_row (w : World) (xs : List Int) (cs : Array Value) (hc : cs = (vals xs).toArray) (hw : AllWf xs) : Row (w.alloc (.cells cs 3)) w.heap.size 0 xs := by
  subst hc
  refine ⟨by simp, fun k hk => ?_, hw⟩
  rw [cell_at2 rfl, Nat.zero_add]
  simp [vals, wd, List.getD_eq_getElem?_getD, List.getElem?_eq_getElem hk]
end Go.Proofs.Ytgggmdanpdggpac
