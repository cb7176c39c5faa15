/- image's reader: where it stands, the next byte. -/
import Derived.Test.YtdacgjjkgagjhacNumbers
import Derived.Deep.AppendLies
namespace Go.Proofs.Ytdacgjjkgagjhac
open Go.RowKit

/-- A reader in block rb, at the byte p of b. -/
structure Rd (w : World) (rb : Nat) (ad : Option Addr) (cap : Nat) (b : List Int) (p : Nat) : Prop where
  c0 : w.cell? ⟨rb, 0, none⟩ = some (.slice ad b.length cap)
  c1 : w.cell? ⟨rb, 1, none⟩ = some (.int .i64 p)
  z1 : w.frozen? ⟨rb, 1, none⟩ = false
  lt : rb < w.heap.size
  byte : ∀ c ∈ b, 0 ≤ c ∧ c ≤ 255
  src : 0 < b.length → ∃ g off, ad = some ⟨g, off, none⟩ ∧ g < rb ∧ BRow w g off b
  many : b.length ≤ maxLen
  le : p ≤ b.length
theorem Rd.other {w w' : World} {rb cap p x : Nat} {ad : Option Addr} {b : List Int} (h : Rd w rb ad cap b p) (hg : w.grownBy w' (some x)) (hx : rb < x) : Rd w' rb ad cap b p := by
  have hb : w'.heap[rb]? = w.heap[rb]? := hg.block rb h.lt (by simp; omega)
  refine ⟨by rw [World.cell?_of_block (a := ⟨rb, 0, none⟩) hb]; exact h.c0, by rw [World.cell?_of_block (a := ⟨rb, 1, none⟩) hb]; exact h.c1, by rw [World.frozen?_of_block (a := ⟨rb, 1, none⟩) hb]; exact h.z1, Nat.lt_of_lt_of_le h.lt hg.size, h.byte, fun h0 => ?_, h.many, h.le⟩
  obtain ⟨g, off, e, hlt, r⟩ := h.src h0
  exact ⟨g, off, e, hlt, r.block (hg.block g r.lt (by simp; omega)) hg.size⟩
theorem Rd.same {w w' : World} {rb cap p : Nat} {ad : Option Addr} {b : List Int} (h : Rd w rb ad cap b p) (hg : Below w.heap.size w w') : Rd w' rb ad cap b p :=
  h.other (x := w.heap.size) ⟨hg.os, hg.tape, hg.output, hg.size, fun k hk _ => hg.block k hk⟩ h.lt
theorem Rd.set {w : World} {rb cap p : Nat} {ad : Option Addr} {b : List Int} (h : Rd w rb ad cap b p) (q : Nat) (hq : q ≤ b.length) : Rd (w.setCell ⟨rb, 1, none⟩ (.int .i64 q)) rb ad cap b q := by
  refine ⟨by rw [World.cell?_setCell_other _ _ _ _ (by simp)]; exact h.c0, World.cell?_setCell_same' _ _ _ (by rw [h.c1]; rfl), by simpa using h.z1, by simpa [World.setCell] using h.lt, h.byte, fun h0 => ?_, h.many, hq⟩
  obtain ⟨g, off, e, hlt, r⟩ := h.src h0
  exact ⟨g, off, e, hlt, r.block (Below.heap_setCell _ _ _ _ (by dsimp only; omega)) (by simp [World.setCell])⟩
theorem grown_set (w : World) (rb i : Nat) (u : Value) : w.grownBy (w.setCell ⟨rb, i, none⟩ u) (some rb) :=
  ⟨rfl, rfl, rfl, by simp [World.setCell], fun k _ hk => Below.heap_setCell _ _ _ _ (fun e => hk (by simpa using e))⟩
theorem grown_drewN (w : World) (n : Nat) (row : Option Nat) : w.grownBy (w.drewN n) row := by
  have := below_drewN (Below.refl w.heap.size w) n
  exact ⟨this.os, this.tape, this.output, this.size, fun k hk _ => this.block k hk⟩
theorem grown_trans {w w1 w2 : World} {row : Option Nat} (h : w.grownBy w1 row) (k : w1.grownBy w2 row) : w.grownBy w2 row :=
  ⟨k.os.trans h.os, k.tape.trans h.tape, k.output.trans h.output, Nat.le_trans h.size k.size, fun i hi hr => (k.block i (Nat.lt_of_lt_of_le hi h.size) hr).trans (h.block i hi hr)⟩
theorem grown_below {w w1 : World} {row : Option Nat} (h : Below w.heap.size w w1) : w.grownBy w1 row := ⟨h.os, h.tape, h.output, h.size, fun k hk _ => h.block k hk⟩
theorem Rd.drewN {w : World} {rb cap p : Nat} {ad : Option Addr} {b : List Int} (h : Rd w rb ad cap b p) (n : Nat) : Rd (w.drewN n) rb ad cap b p := h.same (below_drewN (Below.refl _ _) n)

/-- What is given up by. -/
def whyV (f : Int × Int) : Value := if f.1 = 8 then .iface 71 (.agg #[]) else .iface 73 (.agg #[.int .i64 f.1, .int .i64 f.2])
/-- A call that gives up. -/
def GivesUp (f : Int × Int) (rb : Nat) (w : World) (e : Ending) (w' : World) : Prop := e = .panicked [{ v := whyV f, recovered := false }] ∧ w.grownBy w' (some rb)

set_option maxHeartbeats 1000000 in
theorem next_end (rb cap : Nat) (ad : Option Addr) (b : List Int) (w : World) (h : Rd w rb ad cap b b.length) (a : Int) :
    Calls Try.prog 59 #[.pointer (some ⟨rb, 0, none⟩)] w fun e w' => GivesUp (8, a) rb w e w' := by
  have c0 := h.c0
  have c1 := h.c1
  go_enter Try.func59, Try.ntmps59
  go_wp2_with fail
  go_quiet (fail)
  go_wp2_with fail
  exact ⟨rfl, rfl, grown_drewN _ _ _⟩
set_option maxHeartbeats 1000000 in
theorem next_more (rb cap p : Nat) (ad : Option Addr) (b : List Int) (w : World) (h : Rd w rb ad cap b p) (hp : p < b.length) :
    Calls Try.prog 59 #[.pointer (some ⟨rb, 0, none⟩)] w fun e w' => e = .returned (.int .u8 (wd b p)) ∧ Rd w' rb ad cap b (p + 1) ∧ w.grownBy w' (some rb) := by
  have c0 := h.c0
  have c1 := h.c1
  have z1 := h.z1
  have hm := h.many
  unfold maxLen at hm
  have H : Hid (Rd w rb ad cap b p) := h
  obtain ⟨g, off, rfl, hlt, r⟩ := h.src (by omega)
  have hc := r.cell p hp
  have hne : ((p : Int) == (b.length : Int)) = false := by simp; omega
  clear r h
  go_enter Try.func59, Try.ntmps59
  go_wp2_with fail
  go_quiet (fail)
  go_wp2_with fail
  go_quiet (fail)
  go_wp2_with fail
  go_ret
  refine ⟨rfl, ?_, ?_⟩
  · first | exact (H.out.drewN _).set (p + 1) hp | exact ((H.out.drewN _).drewN _).set (p + 1) hp | (simp; exact (H.out.drewN _).set (p + 1) hp)
  · exact grown_trans (grown_drewN _ _ _) (grown_set _ _ _ _)
end Go.Proofs.Ytdacgjjkgagjhac
