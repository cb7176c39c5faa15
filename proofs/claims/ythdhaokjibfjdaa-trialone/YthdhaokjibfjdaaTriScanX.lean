/- Chapter 18 where nothing but scans is done: all is done in the end, and what is freed is what is not reached. No Go in sight. -/
import Derived.Test.YthdhaokjibfjdaaGi
import Derived.Test.YthdhaokjibfjdaaGonePlainX
namespace Go.Proofs.Ythdhaokjibfjdaa

theorem filter_less {α : Type} (f g : α → Bool) : ∀ (l : List α), (∀ x ∈ l, g x = true → f x = true) → ∀ p ∈ l, f p = true → g p = false → (l.filter g).length < (l.filter f).length
  | a :: r, hi, p, hp, hf, hg => by
    have hir : ∀ x ∈ r, g x = true → f x = true := fun x hx => hi x (List.mem_cons_of_mem _ hx)
    have hle : (r.filter g).length ≤ (r.filter f).length := by
      clear hp hf hg hi
      induction r with
      | nil => exact Nat.le_refl _
      | cons b t ih =>
        have := ih (fun x hx => hir x (List.mem_cons_of_mem _ hx))
        have hb := hir b (List.mem_cons_self ..)
        rw [List.filter_cons, List.filter_cons]
        split
        · rename_i h; rw [if_pos (hb h)]; simp only [List.length_cons]; omega
        · split
          · simp only [List.length_cons]; omega
          · exact this
    rw [List.filter_cons, List.filter_cons]
    rcases List.mem_cons.1 hp with rfl | hp
    · rw [hf, hg]; simp only [if_true, Bool.false_eq_true, if_false, List.length_cons]; omega
    · have ih := filter_less f g r hir p hp hf hg
      split
      · rename_i h; rw [if_pos (hi a (List.mem_cons_self ..) h)]; simp only [List.length_cons]; omega
      · split
        · simp only [List.length_cons]; omega
        · exact ih

/-- Those that are not black. -/
def notBlack (W C : List Int) : Nat := ((places W 2).filter fun p => wd C p != 2).length
theorem scan_cases (W C : List Int) : (scanC W C = C ∧ ∀ p ∈ places W 2, wd C p ≠ 1) ∨ ∃ p ∈ places W 2, wd C p = 1 ∧ scanC W C = shadeL (C.set p 2) (leadsAt W p) := by
  unfold scanC
  cases h : (places W 2).find? (fun p => wd C p == 1) with
  | none =>
    refine Or.inl ⟨rfl, fun p hp e => ?_⟩
    have := List.find?_eq_none.1 h p hp
    simp [e] at this
  | some p =>
    refine Or.inr ⟨p, List.mem_of_find?_eq_some h, ?_, rfl⟩
    have := List.find?_some h
    simpa using this
theorem scan_less {W C : List Int} (hl : ∀ p ∈ places W 2, p < C.length) : (scanC W C = C ∧ ∀ p ∈ places W 2, wd C p ≠ 1) ∨ notBlack W (scanC W C) < notBlack W C := by
  rcases scan_cases W C with h | ⟨p, hp, hc, e⟩
  · exact Or.inl h
  · refine Or.inr ?_
    rw [e]
    have hb : wd (shadeL (C.set p 2) (leadsAt W p)) p = 2 := by
      have h2 : wd (C.set p 2) p = 2 := wd_set_same (hl p hp)
      rcases shadeL_cases (leadsAt W p) (C.set p 2) p with h | ⟨h, _⟩
      · rw [h, h2]
      · rw [h2] at h; cases h
    refine filter_less _ _ _ (fun q hq hg => ?_) p hp (by simp [hc]) (by simp [hb])
    by_cases e : p = q
    · subst e; simp [hc]
    · have hs : wd (C.set p 2) q = wd C q := wd_set_other e
      rcases shadeL_cases (leadsAt W p) (C.set p 2) q with h | ⟨h, _⟩
      · rw [h, hs] at hg; exact hg
      · rw [hs] at h; simp [h]
theorem scan_length (W C : List Int) : (scanC W C).length = C.length := by
  unfold scanC; split
  · rw [shadeL_length]; simp
  · rfl
/-- The colours when n scans are done. -/
def scansC (W C : List Int) : Nat → List Int
  | 0 => C
  | n + 1 => scansC W (scanC W C) n
theorem scans_end {W : List Int} : ∀ (n : Nat) (C : List Int), (∀ p ∈ places W 2, p < C.length) → notBlack W C ≤ n → ∀ p ∈ places W 2, wd (scansC W C n) p ≠ 1
  | 0, C, _, hn, p, hp => fun e => by
    have : p ∈ (places W 2).filter fun p => wd C p != 2 := List.mem_filter.2 ⟨hp, by rw [show wd C p = 1 from e]; decide⟩
    have := List.length_pos_of_mem this
    unfold notBlack at hn; omega
  | n + 1, C, hl, hn, p, hp => by
    rcases scan_less hl with ⟨e, h⟩ | h
    · have : ∀ m, scansC W C m = C := by
        intro m
        induction m with
        | zero => rfl
        | succ m ih => show scansC W (scanC W C) m = C; rw [e]; exact ih
      rw [this]; exact h p hp
    · exact scans_end n (scanC W C) (fun q hq => by rw [scan_length]; exact hl q hq) (by omega) p hp
theorem play_scans (W R : List Int) : ∀ (n : Nat) (C : List Int) (ops : List OpT), ops.length = n → (∀ o ∈ ops, o.kind = 1) → ops.foldl doT ⟨W, R, C⟩ = ⟨W, R, scansC W C n⟩
  | 0, C, ops, hl, _ => by rw [List.eq_nil_of_length_eq_zero hl]; rfl
  | n + 1, C, o :: r, hl, hk => by
    rw [List.foldl_cons]
    have : doT ⟨W, R, C⟩ o = ⟨W, R, scanC W C⟩ := by unfold doT; rw [if_pos (hk o (List.mem_cons_self ..))]
    rw [this]
    exact play_scans W R n (scanC W C) r (by simpa using hl) (fun x hx => hk x (List.mem_cons_of_mem _ hx))
theorem alone_state {W R : List Int} {ops : List OpT} (hk : ∀ o ∈ ops, o.kind = 1) : (playT W R ops).W = W ∧ (playT W R ops).R = R := by
  unfold playT firstT
  rw [play_scans W R ops.length _ ops rfl hk]; exact ⟨rfl, rfl⟩
theorem alone_done {W R : List Int} {ops : List OpT} (hk : ∀ o ∈ ops, o.kind = 1) (hn : (places W 2).length ≤ ops.length) : doneT (playT W R ops) = true := by
  unfold playT firstT
  rw [play_scans W R ops.length _ ops rfl hk]
  unfold doneT
  rw [List.all_eq_true]
  intro p hp
  have h1 := scans_end (W := W) ops.length (shadeL (List.replicate (W.length + 1) 0) R) (fun q hq => by rw [shadeL_length, List.length_replicate]; have := (place_ge hq).2; omega) (Nat.le_trans (List.length_filter_le _ _) hn) p hp
  simpa using h1
/-- What is freed then: those that are not reached. -/
theorem alone_freed {W R : List Int} {ops : List OpT} (hc : (checkOf W).1 = 0) (hr : ∀ x ∈ R, okRef W x) (hk : ∀ o ∈ ops, o.kind = 1) (hn : (places W 2).length ≤ ops.length) :
    ∀ o : Int, o ∈ freedT (playT W R ops) ↔ ∃ p ∈ places W 2, o = 2 * (p : Int) ∧ ¬ Reached W R (2 * (p : Int)) := by
  have hi := play_inv ops hc hr
  have hd := alone_done (R := R) hk hn
  obtain ⟨eW, eR⟩ := alone_state (W := W) (R := R) hk
  intro o
  unfold freedT
  rw [if_pos hd, List.mem_map]
  constructor
  · rintro ⟨p, hp, rfl⟩
    rw [List.mem_filter, eW] at hp
    refine ⟨p, hp.1, rfl, fun h => ?_⟩
    have hs := hi.safe hd (p := p)
    rw [eW, eR] at hs
    exact hs h (by simpa using hp.2)
  · rintro ⟨p, hp, rfl, h⟩
    exact ⟨p, List.mem_filter.2 ⟨by rw [eW]; exact hp, by simp [hi.white hp h]⟩, rfl⟩
/-- The same in order. -/
theorem alone_gone {W R : List Int} {ops : List OpT} (hc : (checkOf W).1 = 0) (hr : ∀ x ∈ R, okRef W x) (hk : ∀ o ∈ ops, o.kind = 1) (hn : (places W 2).length ≤ ops.length) : freedT (playT W R ops) = goneL W R := by
  have hi := play_inv ops hc hr
  have hd := alone_done (R := R) hk hn
  obtain ⟨eW, eR⟩ := alone_state (W := W) (R := R) hk
  unfold freedT goneL goneP
  rw [if_pos hd, eW]
  congr 1
  refine List.filter_congr fun p hp => ?_
  rw [Bool.eq_iff_iff]
  simp only [decide_eq_true_eq, beq_iff_eq]
  constructor
  · intro h hre
    have hs := hi.safe hd (p := p)
    rw [eW, eR] at hs
    exact hs hre h
  · intro h; exact hi.white hp h
theorem alone_colours {W R : List Int} {ops : List OpT} (hk : ∀ o ∈ ops, o.kind = 1) : (coloursT (playT W R ops)).length = (places W 2).length := by
  unfold coloursT; rw [(alone_state (R := R) hk).1, List.length_map]
end Go.Proofs.Ythdhaokjibfjdaa
