/- gessoref3.things: are two things alike? -/
import Derived.Test.YtpapaadclkdbkaaRefSame
namespace Go.Proofs.Ytpapaadclkdbkaa
open Go.RowKit

theorem quiet_more {P : Program} {f : FuncId} {args : Array Value} {w : World} {n m : Nat} {v : Value}
    (h : Calls P f args (w.drewN (n + m)) fun e w' => e = .returned v ∧ ∃ k, w' = (w.drewN (n + m)).drewN k) : Calls P f args (w.drewN (n + m)) fun e w'' => e = .returned v ∧ ∃ m', w'' = w.drewN (n + m') :=
  h.mono fun _ _ ⟨he, k, hm⟩ => ⟨he, m + k, by rw [hm, World.drewN_drewN, Nat.add_assoc]⟩
theorem quiet_one {P : Program} {f : FuncId} {args : Array Value} {w : World} {m : Nat} {v : Value}
    (h : Calls P f args (w.drewN m) fun e w' => e = .returned v ∧ ∃ k, w' = (w.drewN m).drewN k) : Calls P f args (w.drewN m) fun e w'' => e = .returned v ∧ ∃ m', w'' = w.drewN m' :=
  h.mono fun _ _ ⟨he, k, hm⟩ => ⟨he, m + k, by rw [hm, World.drewN_drewN]⟩

/-- The ways of what a slot of Weak counts as. -/
theorem weak_ways {W : List Int} {A : List Bool} {x : Int} (h : okRef W x) :
    ((kindOf x == 3) = false ∧ weakB A x = x) ∨ (∃ p : Nat, x = 2 * (p : Int) ∧ p ∈ places W 2 ∧ (kindOf (2 * (p : Int)) == 3) = true ∧ bt A p = true ∧ weakB A (2 * (p : Int)) = 2 * (p : Int)) ∨ (∃ p : Nat, x = 2 * (p : Int) ∧ p ∈ places W 2 ∧ (kindOf (2 * (p : Int)) == 3) = true ∧ bt A p = false ∧ weakB A (2 * (p : Int)) = 0) := by
  by_cases hk : kindOf x = 3
  · obtain ⟨p, rfl, hp, hpe⟩ := ok_place h hk
    cases hb : bt A p with
    | true => exact Or.inr (Or.inl ⟨p, rfl, hp, by simp [hk], hb, by unfold weakB; rw [if_neg (by rw [hpe, hb]; simp)]⟩)
    | false => exact Or.inr (Or.inr ⟨p, rfl, hp, by simp [hk], hb, by unfold weakB; rw [if_pos ⟨hk, by rw [hpe, hb]⟩]⟩)
  · exact Or.inl ⟨by simpa using hk, by unfold weakB; rw [if_neg (fun h => hk h.1)]⟩
theorem weak_ok {W : List Int} {A : List Bool} {x : Int} (h : okRef W x) : okRef W (weakB A x) := by
  unfold weakB; split
  · exact ok_zero W
  · exact h
theorem slots_next {W : List Int} {A : List Bool} {V : List Int} {B : List Bool} {p q k n : Nat} {t : Bool} (h : slotB W A V B (formAt W p) (wd W (p + 3 + k)) (wd V (q + 3 + k)) = t) : slotsB W A V B p q k (n + 1) = if t = true then slotsB W A V B p q (k + 1) n else false := by
  conv => lhs; unfold slotsB
  rw [h]

set_option maxHeartbeats 8000000 in
set_option maxRecDepth 100000 in
theorem rpair_any (W V : List Int) (A B : List Bool) (b off cap oa b' off' cap' ob p q : Nat) (w : World) (hA : Sits w b off oa W A) (hB : Sits w b' off' ob V B) (hp : p ∈ places W 2) (hq : q ∈ places V 2) :
    Calls Try.prog 44 #[.slice (some ⟨b, off, none⟩) W.length cap, sl oa W.length W.length, .int .i64 p, .slice (some ⟨b', off', none⟩) V.length cap', sl ob V.length V.length, .int .i64 q] w fun e w' => e = .returned (.bool (thingsB W A V B p q)) ∧ ∃ m, w' = w.drewN m := by
  have hw := hA.fine.few
  have hw' := hB.fine.few
  have hrm := hA.fine.room p hp
  have hrm' := hB.fine.room q hq
  have hsh : Hid _ := hA.fine.shape p hp
  have hfm := hA.fine.form p hp
  have c2 := hA.row.cell (p + 2) (by omega)
  have d2 := hB.row.cell (q + 2) (by omega)
  have c0 := hA.row.cell p (by omega)
  have d0 := hB.row.cell q (by omega)
  have i0 : (0 : Int) ≤ (p : Int) := by omega
  have i1 : (p : Int) < (W.length : Int) := by omega
  have i2 : (0 : Int) ≤ (p : Int) + 2 := by omega
  have i3 : (p : Int) + 2 < (W.length : Int) := by omega
  have j0 : (0 : Int) ≤ (q : Int) := by omega
  have j1 : (q : Int) < (V.length : Int) := by omega
  have j2 : (0 : Int) ≤ (q : Int) + 2 := by omega
  have j3 : (q : Int) + 2 < (V.length : Int) := by omega
  have t2 : ((p : Int) + 2).toNat = p + 2 := by omega
  have t2' : ((q : Int) + 2).toNat = q + 2 := by omega
  have w2 := wrap_id (x := (p : Int) + 2) (by omega) (by omega)
  have w2' := wrap_id (x := (q : Int) + 2) (by omega) (by omega)
  have hcls := hA.fine.cls p hp
  have hcls' := hB.fine.cls q hq
  by_cases hs : wd W (p + 2) = wd V (q + 2)
  · have hsb : (wd W (p + 2) != wd V (q + 2)) = false := by simp [hs]
    have hlen : slotsAt V q = slotsAt W p := by unfold slotsAt; rw [hs]
    have hff : formAt V q = formAt W p := by unfold formAt; rw [hs]
    have HT : Hid (thingsB W A V B p q = if sameB W A V B (wd W p) (wd V q) = true then slotsB W A V B p q 0 (slotsAt W p) else false) := by unfold thingsB; rw [if_pos hs]; rfl
    clear hs
    cases hc : sameB W A V B (wd W p) (wd V q) with
    | false =>
      have H : Hid (thingsB W A V B p q = false) := by have := HT.out; rw [hc] at this; exact this
      go_enter Try.func44, Try.ntmps44
      go_wp2_with fail
      go_quiet (fail)
      go_wp2_with fail
      go_quiet ((go_at_call 42; exact quiet_more (rsame_any W V A B b off cap oa b' off' cap' ob _ _ _ (hA.drewN _) (hB.drewN _) hcls hcls')))
      go_wp2_with fail
      go_ret
      exact ⟨by rw [H.out]; rfl, _, rfl⟩
    | true =>
      have H : Hid (thingsB W A V B p q = slotsB W A V B p q 0 (slotsAt W p)) := by have := HT.out; rw [hc] at this; exact this
      go_enter Try.func44, Try.ntmps44
      go_wp2_with fail
      go_quiet (fail)
      go_wp2_with fail
      go_quiet ((go_at_call 42; exact quiet_more (rsame_any W V A B b off cap oa b' off' cap' ob _ _ _ (hA.drewN _) (hB.drewN _) hcls hcls')))
      go_wp2_with fail
      clear c0 d0 i0 i1 j0 j1 hcls hcls' hc HT
      go_loopw [14] (fun s wr => ∃ (k n : Nat), s = .int .i64 k ∧ k ≤ slotsAt W p ∧ Hid (thingsB W A V B p q = slotsB W A V B p q k (slotsAt W p - k)) ∧ wr = w.drewN n) (fun s _ => slotsAt W p - (intOf s).toNat)
      case atStart => exact ⟨0, _, rfl, Nat.zero_le _, H, rfl⟩
      case round =>
        clear H
        obtain ⟨k, n, rfl, hk, hck, rfl⟩ := hrel
        have hq4 : wd W (p + 2) / 4 = (slotsAt W p : Int) := by have := hsh.out; rcases hfm with f | f | f <;> omega
        by_cases hlt : k < slotsAt W p
        · have hkn : (k : Int) < wd W (p + 2) / 4 := by rw [hq4]; omega
          have cx := hA.row.cell (p + 3 + k) (by omega)
          have cy := hB.row.cell (q + 3 + k) (by omega)
          have hn : slotsAt W p - k = (slotsAt W p - (k + 1)) + 1 := by omega
          rcases hfm with f | f | f
          · have ox := hA.fine.slot p hp (by rw [f]; decide) k hlt
            have oy := hB.fine.slot q hq (by rw [hff, f]; decide) k (by omega)
            have e2 : (wd W (p + 2) % 4 == 2) = false := by unfold formAt at f; rw [f]; decide
            have e1 : (wd W (p + 2) % 4 != 1) = true := by unfold formAt at f; rw [f]; decide
            cases hv : sameB W A V B (wd W (p + 3 + k)) (wd V (q + 3 + k)) with
            | true =>
              have Hk : Hid (thingsB W A V B p q = slotsB W A V B p q (k + 1) (slotsAt W p - (k + 1))) := by have := hck.out; rw [hn, slots_next (t := true) (by unfold slotB; rw [if_neg (by rw [f]; decide), if_neg (by rw [f]; decide)]; exact hv)] at this; exact this
              clear hck
              go_wp2_with (go_at_call 42; refine (rsame_any W V A B b off cap oa b' off' cap' ob _ _ _ (hA.drewN _) (hB.drewN _) ox oy).mono ?_; rintro e w' ⟨rfl, m', rfl⟩)
              go_roundw
              case rel => exact ⟨k + 1, _, by first | rfl | simp, by omega, Hk, rfl⟩
              case measure => simp [intOf]; omega
            | false =>
              have Hk : Hid (thingsB W A V B p q = false) := by have := hck.out; rw [hn, slots_next (t := false) (by unfold slotB; rw [if_neg (by rw [f]; decide), if_neg (by rw [f]; decide)]; exact hv)] at this; exact this
              clear hck
              go_wp2_with (go_at_call 42; refine (rsame_any W V A B b off cap oa b' off' cap' ob _ _ _ (hA.drewN _) (hB.drewN _) ox oy).mono ?_; rintro e w' ⟨rfl, m', rfl⟩)
              go_ret
              exact ⟨by rw [Hk.out]; rfl, _, rfl⟩
          · have e2 : (wd W (p + 2) % 4 == 2) = false := by unfold formAt at f; rw [f]; decide
            have e1 : (wd W (p + 2) % 4 != 1) = false := by unfold formAt at f; rw [f]; decide
            by_cases he : wd W (p + 3 + k) = wd V (q + 3 + k)
            · have Hk : Hid (thingsB W A V B p q = slotsB W A V B p q (k + 1) (slotsAt W p - (k + 1))) := by have := hck.out; rw [hn, slots_next (t := true) (by unfold slotB; rw [if_pos f]; simpa using he)] at this; exact this
              rw [← he] at cy
              clear hck he
              go_wp2_with fail
              go_roundw
              case rel => exact ⟨k + 1, _, by first | rfl | simp, by omega, Hk, rfl⟩
              case measure => simp [intOf]; omega
            · have heb : (wd W (p + 3 + k) == wd V (q + 3 + k)) = false := by simpa using he
              have Hk : Hid (thingsB W A V B p q = false) := by have := hck.out; rw [hn, slots_next (t := false) (by unfold slotB; rw [if_pos f]; exact heb)] at this; exact this
              clear hck he
              go_wp2_with fail
              go_ret
              exact ⟨by rw [Hk.out]; rfl, _, rfl⟩
          · have ox := hA.fine.slot p hp (by rw [f]; decide) k hlt
            have oy := hB.fine.slot q hq (by rw [hff, f]; decide) k (by omega)
            have e2 : (wd W (p + 2) % 4 == 2) = true := by unfold formAt at f; rw [f]; decide
            have e1 : (wd W (p + 2) % 4 != 1) = true := by unfold formAt at f; rw [f]; decide
            obtain ⟨x, hx⟩ : ∃ x, wd W (p + 3 + k) = x := ⟨_, rfl⟩
            obtain ⟨y, hy⟩ : ∃ y, wd V (q + 3 + k) = y := ⟨_, rfl⟩
            rw [hx] at cx ox
            rw [hy] at cy oy
            have okx := weak_ok (A := A) ox
            have oky := weak_ok (A := B) oy
            have hwx := weak_ways (A := A) ox
            have hwy := weak_ways (A := B) oy
            have hsl : ∀ t, sameB W A V B (weakB A x) (weakB B y) = t → slotB W A V B (formAt W p) (wd W (p + 3 + k)) (wd V (q + 3 + k)) = t := fun t ht => by unfold slotB; rw [if_neg (by rw [f]; decide), if_pos f, hx, hy]; exact ht
            have HN : Hid (∀ t, sameB W A V B (weakB A x) (weakB B y) = t → thingsB W A V B p q = if t = true then slotsB W A V B p q (k + 1) (slotsAt W p - (k + 1)) else false) := fun t ht => by have := hck.out; rw [hn, slots_next (hsl t ht)] at this; exact this
            clear hck hsl hx hy ox oy
            rcases hwx with ⟨kx, wx⟩ | ⟨px, rfl, hpx, kx, bx, wx⟩ | ⟨px, rfl, hpx, kx, bx, wx⟩
            all_goals
              first | (have hpl := (place_ge hpx).2; have hax := hA.marks.cell hpl; rw [bx] at hax; have h2x : 2 * (px : Int) / 2 = (px : Int) := (by omega); clear hpx bx) | skip
              rcases hwy with ⟨ky, wy⟩ | ⟨py, rfl, hpy, ky, by', wy⟩ | ⟨py, rfl, hpy, ky, by', wy⟩
              all_goals
                first | (have hpl' := (place_ge hpy).2; have hby := hB.marks.cell hpl'; rw [by'] at hby; have h2y : 2 * (py : Int) / 2 = (py : Int) := (by omega); clear hpy by') | skip
                rw [wx] at okx HN
                rw [wy] at oky HN
                clear wx wy
                have key := HN.out _ rfl
                clear HN
                split at key
                · rename_i hv
                  have Hk : Hid _ := key
                  clear key
                  go_wp2_with (first | (go_at_call 53; refine (rkind_any _ _).mono ?_; rintro e w' ⟨rfl, rfl⟩) | (go_at_call 42; refine (rsame_any W V A B b off cap oa b' off' cap' ob _ _ _ (hA.drewN _) (hB.drewN _) okx oky).mono ?_; rintro e w' ⟨rfl, m', rfl⟩))
                  go_roundw
                  case rel => exact ⟨k + 1, _, by first | rfl | simp, by omega, Hk, rfl⟩
                  case measure => simp [intOf]; omega
                · rename_i hv0
                  have hv := Bool.eq_false_iff.2 hv0
                  have Hk : Hid _ := key
                  clear key hv0
                  go_wp2_with (first | (go_at_call 53; refine (rkind_any _ _).mono ?_; rintro e w' ⟨rfl, rfl⟩) | (go_at_call 42; refine (rsame_any W V A B b off cap oa b' off' cap' ob _ _ _ (hA.drewN _) (hB.drewN _) okx oky).mono ?_; rintro e w' ⟨rfl, m', rfl⟩))
                  go_ret
                  exact ⟨by rw [Hk.out]; rfl, _, rfl⟩
        · have Hk : Hid (thingsB W A V B p q = true) := by have := hck.out; rw [show slotsAt W p - k = 0 by omega] at this; exact this
          have hkn : ¬ ((k : Int) < wd W (p + 2) / 4) := by rw [hq4]; omega
          clear hck
          go_wp2_with fail
          go_ret
          exact ⟨by rw [Hk.out]; rfl, _, rfl⟩
  · have hsb : (wd W (p + 2) != wd V (q + 2)) = true := by simpa using hs
    have H : Hid (thingsB W A V B p q = false) := by unfold thingsB; rw [if_neg hs]; rfl
    clear hs
    go_enter Try.func44, Try.ntmps44
    go_wp2_with fail
    go_quiet (fail)
    go_wp2_with fail
    go_ret
    exact ⟨by rw [H.out]; rfl, _, rfl⟩

end Go.Proofs.Ytpapaadclkdbkaa
