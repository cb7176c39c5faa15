/- gessoref6.Read. -/
import Derived.Test.YtdacgjjkgagjhacRef6L
import Derived.Test.YtdacgjjkgagjhacImgKit
namespace Go.Proofs.Ytdacgjjkgagjhac
open Go.RowKit

/-- Numbers of one's own, from block B on. -/
def OwnAt (B : Nat) (ad : Option Addr) (l : List Int) (w : World) : Prop := 0 < l.length → ∃ g off, ad = some ⟨g, off, none⟩ ∧ B ≤ g ∧ Row w g off l
theorem OwnAt.roots {B : Nat} {ad : Option Addr} {l : List Int} {w : World} (h : OwnAt B ad l w) : RootsAt ad l w := fun h0 => let ⟨g, off, e, _, r⟩ := h h0; ⟨g, off, e, r⟩
theorem OwnAt.below {B : Nat} {ad : Option Addr} {l : List Int} {w w' : World} (h : OwnAt B ad l w) (hb : Below w.heap.size w w') : OwnAt B ad l w' := fun h0 => let ⟨g, off, e, b, r⟩ := h h0; ⟨g, off, e, b, r.same hb⟩
theorem OwnAt.set {B : Nat} {ad : Option Addr} {l : List Int} {w : World} (h : OwnAt B ad l w) {p : Addr} (hp : p.block < B) (u : Value) : OwnAt B ad l (w.setCell p u) := fun h0 => let ⟨g, off, e, b, r⟩ := h h0; ⟨g, off, e, b, row_set r (by omega) u⟩
theorem listB_fit {l : List Int} (h : ∀ x ∈ l, fitN x) (hn : l.length ≤ 2000) : (listB l).length ≤ 9 + 9 * l.length := by
  have : ∀ l : List Int, (∀ x ∈ l, fitN x) → (l.flatMap numB).length ≤ 9 * l.length := by
    intro l
    induction l with
    | nil => intro _; simp
    | cons x l ih =>
      intro h
      have h1 : (numB x).length ≤ 9 := enc_short 9 _ (h x (List.mem_cons_self ..)) (by omega)
      have h2 := ih fun y hy => h y (List.mem_cons_of_mem _ hy)
      rw [List.flatMap_cons, List.length_append, List.length_cons]; omega
  have h1 := this l h
  have h2 := numB_short (x := l.length) ⟨by omega, by omega⟩
  unfold listB
  rw [List.length_append]; omega
theorem listAt_le {b : List Int} (hb : ∀ c ∈ b, 0 ≤ c ∧ c ≤ 255) {p q : Nat} {least most : Int} {l : List Int} (h0 : 0 ≤ least) (hm : most ≤ 2000) (h : listAt b p least most = .ok (l, q)) : q ≤ p + 20000 ∧ (∀ x ∈ l, fitN x) := by
  obtain ⟨a1, a2, a3, a4, a5, a6⟩ := listAt_out hb h0 h
  have h1 := listB_fit a4 (by omega)
  rw [← a1] at h1
  simp at h1
  exact ⟨by omega, a4⟩
theorem rlist_ok (ad : Option Addr) (cap p q : Nat) (least most : Int) (b l : List Int) (w : World) (h : BytesAt ad b w) (hbm : b.length ≤ maxLen) (hp : p ≤ 100000) (h0 : 0 ≤ least) (h2 : most ≤ 2000) (h1 : least ≤ 2000) (h3 : 0 ≤ most) (hl : listAt b p least most = .ok (l, q)) :
    Calls Try.prog 26 #[.slice ad b.length cap, .int .i64 p, .int .i64 least, .int .i64 most] w fun e w' => (∃ ad' c', e = .returned (.tuple #[.slice ad' l.length c', .int .i64 (q : Int), .agg #[.int .i64 0, .int .i64 0]]) ∧ OwnAt w.heap.size ad' l w') ∧ Below w.heap.size w w' := by
  refine (rlist_any ad cap p least most b w h hbm hp h0 h2 h1 h3).mono fun e w' hh => ⟨?_, hh.2⟩
  have hf := (listAt_le h.1 h0 h2 hl).2
  have hr := hh.1
  rw [hl] at hr
  obtain ⟨v, e1, ho⟩ := hr
  rcases ho.2 with ⟨rfl, hz⟩ | ⟨g, c, cur, rfl, hg, r⟩
  · exact ⟨none, 0, by rw [e1, hz], fun h => by omega⟩
  · refine ⟨some ⟨g, 0, none⟩, c, e1, fun h0 => ⟨g, 0, rfl, hg, own_reads (own_mono (Nat.zero_le _) ho) (fun k => ?_)⟩⟩
    by_cases hk : k < l.length
    · unfold wd; rw [List.getD_eq_getElem?_getD, List.getElem?_eq_getElem hk]; exact fit_wf (hf _ (List.getElem_mem hk))
    · unfold wd; rw [List.getD_eq_getElem?_getD, List.getElem?_eq_none (by omega)]; decide
theorem rlist_bad (ad : Option Addr) (cap p : Nat) (least most : Int) (f : Int × Int) (b : List Int) (w : World) (h : BytesAt ad b w) (hbm : b.length ≤ maxLen) (hp : p ≤ 100000) (h0 : 0 ≤ least) (h2 : most ≤ 2000) (h1 : least ≤ 2000) (h3 : 0 ≤ most) (hl : listAt b p least most = .error f) :
    Calls Try.prog 26 #[.slice ad b.length cap, .int .i64 p, .int .i64 least, .int .i64 most] w fun e w' => e = .returned (.tuple #[.slice none 0 0, .int .i64 0, .agg #[.int .i64 f.1, .int .i64 f.2]]) ∧ Below w.heap.size w w' := by
  have := rlist_any ad cap p least most b w h hbm hp h0 h2 h1 h3
  rw [hl] at this
  exact this

/-- What Read answers where something is wrong. -/
abbrev noRead (f : Int × Int) (e : Ending) : Prop := e = .returned (.tuple #[.agg #[.slice none 0 0], .slice none 0 0, .agg #[.int .i64 f.1, .int .i64 f.2]])

set_option maxRecDepth 20000 in
set_option maxHeartbeats 4000000 in
theorem rread_mark (ad : Option Addr) (cap : Nat) (b : List Int) (w : World) (h : BytesAt ad b w) (hbm : b.length ≤ maxLen) (f : Int × Int) (hf : markP b = some f) :
    Calls Try.prog 18 #[.slice ad b.length cap] w fun e w' => noRead f e ∧ Below w.heap.size w w' := by
  have hbA : Below w.heap.size w ((w.alloc (.cells #[.slice none 0 0] 24)).alloc (.cells #[.int .i64 0, .int .i64 0] 27)) := ((Below.refl _ _).alloc (Nat.le_refl _) _).alloc (by simp) _
  unfold maxLen at hbm
  unfold markP at hf
  by_cases hl0 : 0 < b.length
  · obtain ⟨g, off, rfl, hrow⟩ := h.2 hl0
    have hglt := hrow.lt
    have hc0 := (hrow.same hbA).cell 0 hl0
    rw [Nat.add_zero] at hc0
    have hi0 : (0 : Int) < (b.length : Int) := by omega
    by_cases h0 : wd b 0 = 71
    · by_cases hl1 : 1 < b.length
      · have hc1 := (hrow.same hbA).cell 1 hl1
        have hi1 : (1 : Int) < (b.length : Int) := by omega
        by_cases h1 : wd b 1 = 69
        · rw [if_neg (by rintro (⟨_, x⟩ | ⟨_, x⟩); exact x h0; exact x h1), if_neg (by omega)] at hf
          cases hf
        · rw [if_pos (Or.inr ⟨hl1, h1⟩)] at hf
          simp only [Option.some.injEq] at hf
          subst hf
          rw [h0] at hc0
          have hne : (wd b 1 != 69) = true := by simpa using h1
          generalize wd b 1 = c1 at *
          clear hrow h h0 h1
          go_enter Try.func18, Try.ntmps18
          go_wp2
          refine bodyPost_ret (v := .tuple #[.agg #[.slice none 0 0], .slice none 0 0, .agg #[.int .i64 2, .int .i64 0]]) (by simp [results, Try.results18, go_sem]) rfl ⟨rfl, ?_⟩
          exact ((Below.refl _ _).alloc (Nat.le_refl _) _).alloc (by simp) _
      · have hi1 : ¬ (1 : Int) < (b.length : Int) := by omega
        have hlt2 : (b.length : Int) < 2 := by omega
        rw [if_neg (by rintro (⟨_, x⟩ | ⟨x, _⟩); exact x h0; exact hl1 x), if_pos (by omega)] at hf
        simp only [Option.some.injEq] at hf
        subst hf
        rw [h0] at hc0
        clear hrow h h0
        go_enter Try.func18, Try.ntmps18
        go_wp2
        refine bodyPost_ret (v := .tuple #[.agg #[.slice none 0 0], .slice none 0 0, .agg #[.int .i64 8, .int .i64 (b.length : Int)]]) (by simp [results, Try.results18, go_sem]) rfl ⟨rfl, ?_⟩
        exact ((Below.refl _ _).alloc (Nat.le_refl _) _).alloc (by simp) _
    · rw [if_pos (Or.inl ⟨hl0, h0⟩)] at hf
      simp only [Option.some.injEq] at hf
      subst hf
      have hne : (wd b 0 != 71) = true := by simpa using h0
      generalize wd b 0 = c0 at *
      clear hrow h h0
      go_enter Try.func18, Try.ntmps18
      go_wp2
      refine bodyPost_ret (v := .tuple #[.agg #[.slice none 0 0], .slice none 0 0, .agg #[.int .i64 2, .int .i64 0]]) (by simp [results, Try.results18, go_sem]) rfl ⟨rfl, ?_⟩
      exact ((Below.refl _ _).alloc (Nat.le_refl _) _).alloc (by simp) _
  · have hz : b.length = 0 := by omega
    rw [if_neg (by rintro (⟨x, _⟩ | ⟨x, _⟩) <;> omega), if_pos (by omega)] at hf
    simp only [Option.some.injEq] at hf
    subst hf
    clear h
    rw [hz]
    go_enter Try.func18, Try.ntmps18
    go_wp2
    refine bodyPost_ret (v := .tuple #[.agg #[.slice none 0 0], .slice none 0 0, .agg #[.int .i64 8, .int .i64 0]]) (by simp [results, Try.results18, go_sem]) rfl ⟨rfl, ?_⟩
    exact ((Below.refl _ _).alloc (Nat.le_refl _) _).alloc (by simp) _
theorem mark_out {b : List Int} (h : markP b = none) : 2 ≤ b.length ∧ wd b 0 = 71 ∧ wd b 1 = 69 := by
  unfold markP at h
  split at h
  · cases h
  · rename_i h0
    split at h
    · cases h
    · have h2 : 2 ≤ b.length := by omega
      exact ⟨h2, Classical.byContradiction fun e => h0 (Or.inl ⟨by omega, e⟩), Classical.byContradiction fun e => h0 (Or.inr ⟨by omega, e⟩)⟩
end Go.Proofs.Ytdacgjjkgagjhac
