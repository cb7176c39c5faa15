/- What gessoref2.Check answers where the words ahead are right. -/
import Derived.Test.YtgggmdanpdggpacRefCheck
import Derived.Deep.CutRange
import Derived.Deep.DeepCutAuto
import Derived.WalkSmall
namespace Go.Proofs.Ytgggmdanpdggpac
open Go.RowKit

theorem unfit_cases {W : List Int} {p : Nat} (hf : fitsB W p = false) :
    ((W.length : Int) < (p : Int) + 3) ∨ (((p : Int) + 3 ≤ (W.length : Int)) ∧ wd W (p + 2) < 0) ∨ (((p : Int) + 3 ≤ (W.length : Int)) ∧ 0 ≤ wd W (p + 2) ∧ 2 < wd W (p + 2) % 4) ∨
    (((p : Int) + 3 ≤ (W.length : Int)) ∧ 0 ≤ wd W (p + 2) ∧ wd W (p + 2) % 4 ≤ 2 ∧ 60 < wd W (p + 2) / 4) ∨
    (((p : Int) + 3 ≤ (W.length : Int)) ∧ 0 ≤ wd W (p + 2) ∧ wd W (p + 2) % 4 ≤ 2 ∧ wd W (p + 2) / 4 ≤ 60 ∧ (W.length : Int) < (p : Int) + 3 + wd W (p + 2) / 4) := by
  have h := fits_not hf
  unfold slotsAt at h
  omega

/-- The hashes of the things at those places. -/
def hashes (W : List Int) (ps : List Nat) : List Int := ps.map (fun q => wd W (q + 1))
theorem hashes_snoc (W : List Int) (ps : List Nat) (p : Nat) : hashes W (ps ++ [p]) = hashes W ps ++ [wd W (p + 1)] := by simp [hashes]
theorem hash_bool {W : List Int} {p : Nat} (h : 1 ≤ wd W (p + 1)) : decide (wd W 1 ≤ wd W (p + 1)) = decide (wd W (p + 1) < 1 ∨ wd W 1 ≤ wd W (p + 1)) := by
  have : ¬ wd W (p + 1) < 1 := by omega
  simp [this]
theorem tw_step {W : List Int} {t0 : Bool} {p q : Nat} {pre1 : List Nat} :
    (t0 || (hashes W (pre1 ++ [q])).contains (wd W (p + 1))) = ((t0 || (hashes W pre1).contains (wd W (p + 1))) || (wd W (q + 1) == wd W (p + 1))) := by
  rw [hashes_snoc, Bool.or_assoc, List.contains_append, BEq.comm (a := wd W (q + 1))]
  simp only [List.contains_cons, List.contains_nil, Bool.or_false]
theorem twice_step {W : List Int} {p q : Nat} {pre2 : List Nat} (hin : p < W.length) (hqp : q < p) (h : pre2 ++ places W p = places W q) :
    ∃ r, pre2 = q :: r ∧ r ++ places W p = places W (nextAt W q) ∧ q < W.length := by
  have hq : q < W.length := by omega
  rw [places_in hq] at h
  cases pre2 with
  | nil => rw [List.nil_append, places_in hin] at h; simp at h; omega
  | cons x r => simp at h; exact ⟨r, by rw [h.1], h.2, hq⟩
theorem twice_end {W : List Int} {p q : Nat} {pre2 : List Nat} (hin : p < W.length) (hqp : ¬ q < p) (h : pre2 ++ places W p = places W q) : pre2 = [] := by
  have hm : p ∈ places W q := by rw [← h, places_in hin]; simp
  have hge := place_ge hm
  have e : q = p := by omega
  subst e
  cases pre2 with
  | nil => rfl
  | cons x r =>
    have := congrArg List.length h
    simp at this
    omega
theorem Row.drewN {w : World} {b off : Nat} {xs : List Int} (h : Row w b off xs) (n : Nat) : Row (w.drewN n) b off xs :=
  h.same (below_drewN (Below.refl _ _) n)

/-- A callee that draws nothing, in a world that has drawn already. -/
theorem quiet_same {P : Program} {f : FuncId} {args : Array Value} {w : World} {n m : Nat} {v : Value}
    (h : Calls P f args (w.drewN (n + m)) fun e w' => e = .returned v ∧ w' = w.drewN (n + m)) : Calls P f args (w.drewN (n + m)) fun e w'' => e = .returned v ∧ ∃ m', w'' = w.drewN (n + m') :=
  h.mono fun _ _ ⟨he, hm⟩ => ⟨he, m, hm⟩

end Go.Proofs.Ytgggmdanpdggpac
