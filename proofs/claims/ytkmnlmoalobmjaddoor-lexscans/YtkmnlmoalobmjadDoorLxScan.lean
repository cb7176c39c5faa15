/- package lex: Scan. -/
import Derived.Test.YtkmnlmoalobmjadDoorLxPiece
namespace Go.Proofs.YtkmnlmoalobmjadDoor
open Go.RowKit

theorem infoTok : (Tryd.prog.info? 29).map (fun i => (i.zero, i.size, i.bytes)) = some (some (.agg #[.int .i64 0, .string ⟨#[]⟩, .int .i64 0]), 3, 32) := by kernel_rfl
theorem tokE : Elem 22 29 3 32 := by
  obtain ⟨i, hi, h0, h1, h2⟩ := info_parts infoTok
  exact ⟨by kernel_rfl, ⟨i, _, hi, h0, h1, h2, by rfl⟩, by decide, by decide⟩
/-- A token's text and place. -/
theorem come_tok {T : List Int} {i k : Nat} {x : Tok} (h : comeP T i = .tok x k) : x = (x.1, piece T i k, i) := by
  unfold comeP at h
  split at h
  · cases h
  split at h
  · cases h
  split at h
  · simp only [Come8.tok.injEq] at h
    obtain ⟨rfl, rfl⟩ := h
    rfl
  split at h
  · split at h
    · cases h
    · simp only [Come8.tok.injEq] at h
      obtain ⟨rfl, rfl⟩ := h
      rfl
  split at h
  · cases h
  · simp only [Come8.tok.injEq] at h
    obtain ⟨rfl, rfl⟩ := h
    rfl
theorem come_code {T : List Int} {i a : Nat} {c : Int} (h : comeP T i = .bad c a) : c = 2 ∨ c = 11 := by
  unfold comeP at h
  split at h
  · cases h
  split at h
  · cases h
  split at h
  · cases h
  split at h
  · split at h
    · simp only [Come8.bad.injEq] at h
      exact Or.inl h.1.symm
    · cases h
  split at h
  · simp only [Come8.bad.injEq] at h
    exact Or.inr h.1.symm
  · cases h
theorem come_bare {T : List Int} {i k : Nat} (h : comeP T i = .skip k) (hb : Bare T i) (hi : i < T.length) : False := by
  obtain ⟨h0, h35⟩ := hb hi
  unfold comeP at h
  rw [if_neg (by rw [h0]; decide), if_neg h35] at h
  split at h
  · cases h
  split at h
  · split at h <;> cases h
  split at h <;> cases h
/-- What Scan answers. -/
def ScanAns (T : List Int) (B : Nat) (e : Ending) (w' : World) : Prop := match scanP T with
  | .ok l => ∃ v, e = .returned (.tuple #[v, .agg #[.int .i64 0, .int .i64 0]]) ∧ w'.ownsRow B 29 3 v l.length (toksV l)
  | .error (c, a) => e = .returned (.tuple #[.slice none 0 0, .agg #[.int .i64 c, .int .i64 a]])

theorem sclone_any (s : ByteArray) (hs : s.size ≤ 4000) (w : World) :
    Calls Tryd.prog 8 #[.string s] w fun e w' => e = .returned (.string s) ∧ Below w.heap.size w w' := by
  go_enter Tryd.func8, Tryd.ntmps8
  go_wp2_with (go_at_call 21; refine (Tryd.stringslite_Clone s _ (by omega)).mono ?_; rintro e w' ⟨rfl, hb⟩)
  go_ret
  exact ⟨rfl, hb⟩

theorem own_keep {w w' : World} {B : Nat} {e : TypeId} {size n : Nat} {v : Value} {xs : List Value} (h : w.ownsRow B e size v n xs) (hb : Below w.heap.size w w') : w'.ownsRow B e size v n xs := by
  obtain ⟨h1, h2⟩ := h
  refine ⟨h1, ?_⟩
  rcases h2 with h2 | ⟨g, cap', cur, hv, hg, hh, r⟩
  · exact Or.inl h2
  · have hlt : g < w.heap.size := by
      by_cases hx : g < w.heap.size
      · exact hx
      · rw [Array.getElem?_eq_none (by omega)] at hh; cases hh
    exact Or.inr ⟨g, cap', cur, hv, hg, by rw [hb.block g hlt]; exact hh, r⟩
theorem own_put {w : World} {B : Nat} {e : TypeId} {size n : Nat} {v : Value} {xs : List Value} (h : w.ownsRow B e size v n xs) {p : Addr} (hp : p.block < B) (u : Value) : (w.setCell p u).ownsRow B e size v n xs := by
  obtain ⟨h1, h2⟩ := h
  refine ⟨h1, ?_⟩
  rcases h2 with h2 | ⟨g, cap', cur, hv, hg, hh, r⟩
  · exact Or.inl h2
  · exact Or.inr ⟨g, cap', cur, hv, hg, by rw [Below.heap_setCell _ _ _ _ (by omega)]; exact hh, r⟩
theorem own_mono8 {w : World} {B B' : Nat} {e : TypeId} {size n : Nat} {v : Value} {xs : List Value} (hB : B' ≤ B) (h : w.ownsRow B e size v n xs) : w.ownsRow B' e size v n xs := by
  obtain ⟨h1, h2⟩ := h
  refine ⟨h1, ?_⟩
  rcases h2 with h2 | ⟨g, cap', cur, hv, hg, r⟩
  · exact Or.inl h2
  · exact Or.inr ⟨g, cap', cur, hv, Nat.le_trans hB hg, r⟩
theorem tok_cells (w : World) (kd : Int) (t : ByteArray) (i k : Nat) (ty : TypeId) : ∀ j u, (tokV (kd, piece (nums t) i k, i))[j]? = some u → (w.alloc (.cells #[.int .i64 kd, .string (t.extract i k), .int .i64 i] ty)).cell? ((⟨w.heap.size, 0, none⟩ : Addr).add j) = some u := by
  intro j u h
  rw [extract_str]
  rw [add_plain]
  match j, h with
  | 0, h => simpa [tokV] using h
  | 1, h => simpa [tokV] using h
  | 2, h => simpa [tokV] using h
  | j + 3, h => simp [tokV] at h
set_option maxHeartbeats 4000000 in
theorem lscan_any (t : ByteArray) (w : World) (he : Errs w) (hm : t.size ≤ maxLen) :
    Calls Tryd.prog 4 #[.string t] w fun e w' => ScanAns (nums t) w.heap.size e w' ∧ Below w.heap.size w w' := by
  unfold maxLen at hm
  by_cases hl : t.size ≤ 4000
  · have hsp : scanP (nums t) = scanFrom (nums t) 0 := by unfold scanP; rw [nums_length, if_neg (by omega)]
    have HP : Hid (scanP (nums t) = scanFrom (nums t) 0) := hsp
    clear hsp
    have HL : Hid ((nums t).length = t.size) := nums_length t
    have hl' : (t.size : Int) ≤ 4000 := by omega
    go_enter Tryd.func4, Tryd.ntmps4
    go_wp2_with (first | (go_at_call 6; refine (pastGap_any t 0 _ (Nat.zero_le _) hl).mono ?_; rintro e w1 ⟨⟨k0, rfl, hg0, hbare0⟩, hb1⟩))
    obtain ⟨w0, e0⟩ : ∃ w0, w0 = w.alloc (.cells #[.int .i64 0, .int .i64 0] 25) := ⟨_, rfl⟩
    have hz0 : Hid (w0.heap.size = w.heap.size + 1) := by show _ = _; rw [e0]; simp
    have hB0 : Below w.heap.size w w0 := by rw [e0]; exact (Below.refl _ _).alloc (Nat.le_refl _) _
    have d0 : w0.cell? ⟨w.heap.size, 0, none⟩ = some (.int .i64 0) := by rw [e0]; simp
    have d1 : w0.cell? ⟨w.heap.size, 1, none⟩ = some (.int .i64 0) := by rw [e0]; simp
    have f0 : w0.frozen? ⟨w.heap.size, 0, none⟩ = false := by rw [e0]; simp
    have f1 : w0.frozen? ⟨w.heap.size, 1, none⟩ = false := by rw [e0]; simp
    rw [← e0] at hb1
    clear e0
    have hb1' : Below (w.heap.size + 1) w0 w1 := by rw [← hz0.out]; exact hb1
    have hlt0 : w.heap.size < w0.heap.size := by rw [hz0.out]; omega
    have HS0 : Hid (Sofar (nums t) [] k0) := (sofar_first _).gap hg0
    have HB0 : Hid (Bare (nums t) k0) := hbare0
    have hk0 : k0 ≤ t.size := by have := hg0.2.1; rw [HL.out] at this; exact this
    have HO0 : Hid (w1.ownsRow (w.heap.size + 1) 29 3 (.slice none 0 0) ([] : List Tok).length (toksV [])) := World.ownsRow_nil _ _ _ _
    clear hb1 hg0 hbare0
    go_loopw [4, 5] (fun s4 s5 wr => ∃ (i : Nat) (acc : List Tok), s5 = .int .i64 i ∧ i ≤ t.size ∧ Hid (Sofar (nums t) acc i) ∧ Hid (Bare (nums t) i) ∧ acc.length ≤ i ∧ Hid (wr.ownsRow (w.heap.size + 1) 29 3 s4 acc.length (toksV acc)) ∧ Below (w.heap.size + 1) w0 wr) (fun _ s5 _ => t.size - (intOf s5).toNat)
    case atStart => exact ⟨k0, [], rfl, hk0, HS0, HB0, Nat.zero_le _, HO0, hb1'⟩
    case round =>
      clear HS0 HB0 hk0 HO0 hb1'
      obtain ⟨i, acc, rfl, hi, HS, HBr, hac, HO, hB⟩ := hrel
      have hzr := hB.size
      have hlr : w.heap.size < wr.heap.size := by omega
      have heR : Errs wr := (he.lasts hB0).lasts (by have := hB; rw [← hz0.out] at this; exact this)
      have g0 := (hB.cell (p := ⟨w.heap.size, 0, none⟩) (by simp)).trans d0
      have g1 := (hB.cell (p := ⟨w.heap.size, 1, none⟩) (by simp)).trans d1
      have q0 := (hB.frozen (p := ⟨w.heap.size, 0, none⟩) (by simp)).trans f0
      have q1 := (hB.frozen (p := ⟨w.heap.size, 1, none⟩) (by simp)).trans f1
      have hBw : Below w.heap.size w wr := hB0.trans (hB.mono (by omega))
      by_cases hlt : i < t.size
      · have hil : (i : Int) < (t.size : Int) := by omega
        have hpc := piece_any t i hlt hl wr heR HBr.out
        unfold PieceAns at hpc
        cases hc : comeP (nums t) i with
        | skip k => exact (come_bare hc HBr.out (by rw [HL.out]; exact hlt)).elim
        | bad c a =>
          rw [hc] at hpc
          simp only at hpc
          have hcn : ¬ c = 0 := by rcases come_code hc with rfl | rfl <;> decide
          have HE : Hid (scanFrom (nums t) 0 = .error (c, (i : Int))) := HS.out.bad (by rw [HL.out]; exact hlt) hc
          clear hc HS HBr HO
          go_wp2_with (first | (go_at_call 7; refine hpc.mono ?_; rintro e w2 ⟨⟨a', k', rfl⟩, hb2⟩; have r0 := (hb2.cell (p := ⟨w.heap.size, 0, none⟩) hlr).trans g0; have r1 := (hb2.cell (p := ⟨w.heap.size, 1, none⟩) hlr).trans g1; have s0 := (hb2.frozen (p := ⟨w.heap.size, 0, none⟩) hlr).trans q0; have s1 := (hb2.frozen (p := ⟨w.heap.size, 1, none⟩) hlr).trans q1))
          refine bodyPost_ret (v := .tuple #[.slice none 0 0, .agg #[.int .i64 c, .int .i64 i]]) (by simp [results, Tryd.results4, go_sem, r0, r1]) rfl ⟨?_, ?_⟩
          · unfold ScanAns
            rw [HP.out, HE.out]
          · have hend := hBw.trans (hb2.mono hBw.size)
            repeat (first | refine Below.setCell ?_ (by dsimp only; omega) _ | exact hend)
        | tok x k =>
          rw [hc] at hpc
          simp only at hpc
          have hx := come_tok hc
          obtain ⟨kd, px, ix⟩ := x
          simp only [Prod.mk.injEq, true_and] at hx
          obtain ⟨rfl, rfl⟩ := hx
          have hf := come_fits (T := nums t) (i := ix) (by rw [HL.out]; exact hlt)
          rw [hc] at hf
          have hk1 : ix < k := hf.1
          have hk2 : k ≤ t.size := by have := hf.2; rw [HL.out] at this; exact this
          have hi1 : (ix : Int) ≤ (k : Int) := by omega
          have hi2 : (k : Int) ≤ (t.size : Int) := by omega
          have hzx : (t.extract ix k).size ≤ 4000 := by rw [← nums_length, nums_extract, piece_length (by rw [nums_length]; exact hk2)]; omega
          have HS2 : Hid (Sofar (nums t) (acc ++ [(kd, piece (nums t) ix k, ix)]) k) := HS.out.tok (by rw [HL.out]; exact hlt) hc
          clear hc HS HBr hf
          go_wp2_with (first
            | (go_at_call 7; refine hpc.mono ?_; rintro e w2 ⟨rfl, hb2⟩; have O2 : Hid (w2.ownsRow (w.heap.size + 1) 29 3 u4 acc.length (toksV acc)) := own_keep HO.out hb2; have hB2 : Below (w.heap.size + 1) w0 w2 := hB.trans (hb2.mono (by omega)); have hz2 : w.heap.size + 1 ≤ w2.heap.size := (by have := hb2.size; omega))
            | (go_at_call 8; refine (sclone_any (t.extract ix k) hzx _).mono ?_; rintro e w3 ⟨rfl, hb3⟩; have O3 : Hid (w3.ownsRow (w.heap.size + 1) 29 3 u4 acc.length (toksV acc)) := own_keep O2.out hb3; have hB3 : Below (w.heap.size + 1) w0 w3 := hB2.trans (hb3.mono hz2); have hz3 : w.heap.size + 1 ≤ w3.heap.size := (by have := hb3.size; omega))
            | (at_builtin; refine wpList_append_whereN tokE rfl (.tmp 31) (.tmp 40) rfl (w.heap.size + 1) acc.length 1 u4 (toksV acc) (tokV (kd, piece (nums t) ix k, ix)) rfl (O3.out.alloc _) ⟨w3.heap.size, 0, none⟩ rfl rfl (tok_cells _ _ _ _ _ _) (tokV_one _) (by omega) (by simp; omega) ?_; intro g cap' w4 O4 hg4 hor4)
            | (go_at_call 6; refine (pastGap_any t k _ hk2 hl).mono ?_; rintro e w5 ⟨⟨m, rfl, hgap, hbare⟩, hb5⟩))
          have hm1 : k ≤ m := hgap.1
          have hm2 : m ≤ t.size := by have := hgap.2.1; rw [HL.out] at this; exact this
          have hB4 : Below (w.heap.size + 1) w0 w4 := (hB3.alloc hz3 _).grown hg4 (by simp; omega) (fun j hj => (O3.out.lt j hj).1)
          have hz4 : w.heap.size + 1 ≤ w4.heap.size := by have := hg4.size; simp at this; omega
          have O5 : w5.ownsRow (w.heap.size + 1) 29 3 (sl g (acc.length + 1) cap') (acc ++ [(kd, piece (nums t) ix k, ix)]).length (toksV (acc ++ [(kd, piece (nums t) ix k, ix)])) := by
            rw [toksV_snoc, List.length_append]
            exact own_keep O4 hb5
          exact ⟨⟨m, acc ++ [(kd, piece (nums t) ix k, ix)], rfl, hm2, HS2.out.gap hgap, hbare, by simp; omega, O5, hB4.trans (hb5.mono hz4)⟩, by simp [intOf]; omega⟩
      · have HE : Hid (scanFrom (nums t) 0 = .ok acc) := HS.out.done (by rw [HL.out]; exact hlt)
        have e : i = t.size := by omega
        subst e
        go_wp2_with fail
        refine bodyPost_ret (v := .tuple #[u4, .agg #[.int .i64 0, .int .i64 0]]) (by simp [results, Tryd.results4, go_sem, g0, g1]) rfl ⟨?_, ?_⟩
        · unfold ScanAns
          rw [HP.out, HE.out]
          refine ⟨u4, rfl, ?_⟩
          have O := own_mono8 (Nat.le_succ _) (own_put (own_put HO.out (p := ⟨w.heap.size, 0, none⟩) (by simp) (.int .i64 0)) (p := ⟨w.heap.size, 1, none⟩) (by simp) (.int .i64 0))
          exact O
        · repeat (first | refine Below.setCell ?_ (by dsimp only; omega) _ | exact hBw)
  · have hs : scanP (nums t) = .error (1, 0) := by unfold scanP; rw [nums_length, if_pos (by omega)]
    have HA : Hid (∀ B e w', e = .returned (.tuple #[.slice none 0 0, .agg #[.int .i64 1, .int .i64 0]]) → ScanAns (nums t) B e w') := fun B e w' h => by unfold ScanAns; rw [hs]; exact h
    have hl' : (4000 : Int) < (t.size : Int) := by omega
    clear hs
    go_enter Tryd.func4, Tryd.ntmps4
    go_wp2
    refine bodyPost_ret (v := .tuple #[.slice none 0 0, .agg #[.int .i64 1, .int .i64 0]]) (by simp [results, Tryd.results4, go_sem]) rfl ⟨HA.out _ _ _ rfl, ?_⟩
    repeat (first | refine Below.setCell ?_ (by dsimp only; omega) _ | exact (Below.refl _ _).alloc (Nat.le_refl _) _)
end Go.Proofs.YtkmnlmoalobmjadDoor
