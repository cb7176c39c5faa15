/- Rows of bytes in memory: those that came in, those that the call owns (whatever mark they bear); append to them, strings of them. -/
import Derived.Test.YtmgmbgacdjebgaaView3
import Derived.Test.YtmgmbgacdjebgaaTextBase
import Derived.Deep.AppendSrc
import Derived.Laws.BytesArg
import Derived.Laws.IdiomStrings
import Derived.Lib.SlBytesConst
namespace Go.Proofs.Ytmgmbgacdjebgaa
open Go.RowKit

theorem tyB : Try.prog.underlying 5 = some (.int .u8) := by kernel_rfl
theorem tyBs : Try.prog.underlying 78 = some (.slice 5) := by kernel_rfl
theorem infoB : (Try.prog.info? 5).map (fun i => (i.zero, i.size, i.bytes)) = some (some (.int .u8 0), 1, 1) := by kernel_rfl
/-- Numbers as bytes. -/
abbrev bytesV (xs : List Int) : List Value := xs.map (Value.int .u8)
theorem bytesV_at {xs : List Int} {j : Nat} {u : Value} (h : (bytesV xs)[j]? = some u) : j < xs.length ∧ u = .int .u8 (wd xs j) := by
  have hlt : j < xs.length := by
    have := (List.getElem?_eq_some_iff.1 h).1
    simpa using this
  refine ⟨hlt, ?_⟩
  simp [List.getElem?_map, List.getElem?_eq_getElem hlt] at h
  subst h
  simp [wd, List.getElem?_eq_getElem hlt]
theorem bytesV_one (xs : List Int) : ∀ u ∈ bytesV xs, u.oneCell' = true := fun u hu => by
  obtain ⟨_, _, rfl⟩ := List.mem_map.1 hu
  rfl
/-- From the cell off of block b on the bytes xs stand. -/
structure BRow (w : World) (b off : Nat) (xs : List Int) : Prop where
  lt : b < w.heap.size
  cell : ∀ k, k < xs.length → w.cell? ⟨b, off + k, none⟩ = some (.int .u8 (wd xs k))
  byte : ∀ c ∈ xs, 0 ≤ c ∧ c ≤ 255
theorem BRow.same {w w' : World} {b off : Nat} {xs : List Int} (h : BRow w b off xs) (hb : Below w.heap.size w w') : BRow w' b off xs :=
  ⟨by have := hb.size; have := h.lt; omega, fun k hk => by rw [hb.cell (p := ⟨b, off + k, none⟩) h.lt]; exact h.cell k hk, h.byte⟩
theorem BRow.block {w w' : World} {b off : Nat} {xs : List Int} (h : BRow w b off xs) (hb : w'.heap[b]? = w.heap[b]?) (hs : w.heap.size ≤ w'.heap.size) : BRow w' b off xs :=
  ⟨by have := h.lt; omega, fun k hk => by rw [World.cell?_of_block (a := ⟨b, off + k, none⟩) hb]; exact h.cell k hk, h.byte⟩
/-- A slice of bytes that came in: nothing is known of an empty one. -/
def BytesAt (ad : Option Addr) (xs : List Int) (w : World) : Prop := (∀ c ∈ xs, 0 ≤ c ∧ c ≤ 255) ∧ (0 < xs.length → ∃ b off, ad = some ⟨b, off, none⟩ ∧ BRow w b off xs)
theorem BytesAt.below {ad : Option Addr} {xs : List Int} {w w' : World} (h : BytesAt ad xs w) (hb : Below w.heap.size w w') : BytesAt ad xs w' :=
  ⟨h.1, fun h0 => let ⟨b, off, e, r⟩ := h.2 h0; ⟨b, off, e, r.same hb⟩⟩

/-- Block g has room for cap bytes; the first are xs. -/
structure HasB (w : World) (g cap : Nat) (xs : List Int) : Prop where
  lt : g < w.heap.size
  room : xs.length ≤ cap
  few : cap ≤ maxLen
  there : ∀ j, j < cap → (w.cell? ⟨g, j, none⟩).isSome = true
  free : ∀ j, j < cap → w.frozen? ⟨g, j, none⟩ = false
  cell : ∀ j, j < xs.length → w.cell? ⟨g, j, none⟩ = some (.int .u8 (wd xs j))
theorem HasB.block {w w' : World} {g cap : Nat} {xs : List Int} (h : HasB w g cap xs) (hb : w'.heap[g]? = w.heap[g]?) (hs : w.heap.size ≤ w'.heap.size) : HasB w' g cap xs :=
  ⟨by have := h.lt; omega, h.room, h.few, fun j hj => by rw [World.cell?_of_block (a := ⟨g, j, none⟩) hb]; exact h.there j hj, fun j hj => by rw [World.frozen?_of_block (a := ⟨g, j, none⟩) hb]; exact h.free j hj, fun j hj => by rw [World.cell?_of_block (a := ⟨g, j, none⟩) hb]; exact h.cell j hj⟩
theorem HasB.same {w w' : World} {g cap : Nat} {xs : List Int} (h : HasB w g cap xs) (hb : Below w.heap.size w w') : HasB w' g cap xs := h.block (hb.block g h.lt) hb.size
/-- Bytes of one's own, from block B on; nil if there are none yet. -/
def OwnB (w : World) (B : Nat) (v : Value) (xs : List Int) : Prop := (v = .slice none 0 0 ∧ xs = []) ∨ ∃ g cap, v = sl g xs.length cap ∧ B ≤ g ∧ HasB w g cap xs
theorem OwnB.nil (w : World) (B : Nat) : OwnB w B (.slice none 0 0) [] := Or.inl ⟨rfl, rfl⟩
theorem OwnB.same {w w' : World} {B : Nat} {v : Value} {xs : List Int} (h : OwnB w B v xs) (hb : Below w.heap.size w w') : OwnB w' B v xs := by
  rcases h with h | ⟨g, cap, e, hB, h⟩
  · exact Or.inl h
  · exact Or.inr ⟨g, cap, e, hB, h.same hb⟩
theorem OwnB.mono {w : World} {B B' : Nat} {v : Value} {xs : List Int} (h : OwnB w B v xs) (hB' : B' ≤ B) : OwnB w B' v xs := by
  rcases h with h | ⟨g, cap, e, hB, h⟩
  · exact Or.inl h
  · exact Or.inr ⟨g, cap, e, Nat.le_trans hB' hB, h⟩
theorem OwnB.owns {w : World} {B : Nat} {v : Value} {xs : List Int} (h : OwnB w B v xs) : ∀ k, v.ownBlock = some k → B ≤ k ∧ k < w.heap.size := by
  intro k hk
  rcases h with ⟨rfl, _⟩ | ⟨g, cap, rfl, hB, h⟩
  · simp [Value.ownBlock] at hk
  · simp [Value.ownBlock] at hk; subst hk; exact ⟨hB, h.lt⟩
theorem OwnB.alloc {w : World} {B : Nat} {v : Value} {xs : List Int} (h : OwnB w B v xs) (o : Obj) : OwnB (w.alloc o) B v xs := h.same ((Below.refl _ _).alloc (Nat.le_refl _) o)
theorem HasB.row {w : World} {g cap : Nat} {xs : List Int} (h : HasB w g cap xs) (hb : ∀ c ∈ xs, 0 ≤ c ∧ c ≤ 255) : BRow w g 0 xs := ⟨h.lt, fun k hk => by rw [Nat.zero_add]; exact h.cell k hk, hb⟩

theorem wd_app_left {xs ys : List Int} {j : Nat} (h : j < xs.length) : wd (xs ++ ys) j = wd xs j := by
  unfold wd; rw [List.getD_eq_getElem?_getD, List.getElem?_append_left h, List.getD_eq_getElem?_getD]
theorem wd_app_right {xs ys : List Int} {j : Nat} (h : xs.length ≤ j) : wd (xs ++ ys) j = wd ys (j - xs.length) := by
  unfold wd; rw [List.getD_eq_getElem?_getD, List.getElem?_append_right h, List.getD_eq_getElem?_getD]

/-- A new block of bytes. -/
theorem hasB_new (w : World) (xs : List Int) (zs : List Value) (cap : Nat) (hc : xs.length + zs.length = cap) (hm : cap ≤ maxLen) (A : Array Value) (hA : A.toList = bytesV xs ++ zs) (fr : Nat × Nat) (hfr : ∀ j, j < cap → (decide (fr.1 ≤ j) && decide (j < fr.2)) = false) : HasB (w.alloc (.cells A 5 fr)) w.heap.size cap xs := by
  have hcell : ∀ j, (w.alloc (.cells A 5 fr)).cell? ⟨w.heap.size, j, none⟩ = A[j]? := fun j => World.cell?_alloc_mark w A 5 fr j
  have hget : ∀ j, A[j]? = (bytesV xs ++ zs)[j]? := fun j => by rw [← hA, Array.getElem?_toList]
  refine ⟨by simp, by omega, hm, fun j hj => ?_, fun j hj => ?_, fun j hj => ?_⟩
  · rw [hcell, hget, List.getElem?_eq_getElem (by simp; omega)]; rfl
  · obtain ⟨lo, hi⟩ := fr
    rw [World.frozen?_alloc_mark]; exact hfr j hj
  · rw [hcell, hget, List.getElem?_append_left (by simpa using hj)]
    simp [wd, List.getElem?_eq_getElem hj]

theorem grownBy_setCells (w : World) (g o : Nat) (vs : List Value) : w.grownBy (w.setCells g o vs) (some g) ∧ (w.setCells g o vs).heap.size = w.heap.size := by
  induction vs generalizing o w with
  | nil => exact ⟨World.grownBy.refl _ _, rfl⟩
  | cons v vs ih =>
    obtain ⟨⟨h1, h2, h3, h4, h5⟩, h6⟩ := ih (w.setCell ⟨g, o, none⟩ v) (o + 1)
    have hs : (w.setCell ⟨g, o, none⟩ v).heap.size = w.heap.size := by simp [World.setCell]
    refine ⟨⟨h1, h2, h3, by rw [← hs]; exact h4, fun k hk hne => ?_⟩, h6.trans hs⟩
    have := h5 k (by omega) hne
    exact this.trans (Below.heap_setCell w ⟨g, o, none⟩ v k (fun e => hne (by simpa using e)))

/-- append to bytes of one's own. -/
theorem run_append_B (w : World) (B : Nat) (ty : TypeId) (v : Value) (xs : List Int) (h : OwnB w B v xs) (a : Addr) (m c : Nat) (news : List Int) (hl : news.length = m) (hc : ∀ j u, (bytesV news)[j]? = some u → w.cell? (a.add j) = some u) (hm : 0 < m) (hb : xs.length + m ≤ 1000000) (hB : B ≤ w.heap.size) :
    ∃ g cap w', (Builtin.append_ #[78, 78] ty #[v, .slice (some a) m c]).run Try.prog w = .ok (sl g (xs.length + m) cap) w' ∧ B ≤ g ∧ HasB w' g cap (xs ++ news) ∧ w.grownBy w' v.ownBlock := by
  obtain ⟨i, hi, hz0, hz1, hz2⟩ := info_parts infoB
  subst hl
  have hs : Src Try.prog i.size 78 (.slice (some a) news.length c) news.length (bytesV news) w := Src.ofSlice w tyBs a news.length c (bytesV news) (by rw [hz1]; simp) hc (bytesV_one news)
  have grow : ∀ (base : Option Addr) (cap : Nat), (Builtin.firstCells i.size xs.length (.slice base xs.length cap)).run Try.prog w.drew = .ok (bytesV xs).toArray w.drew → cap < xs.length + news.length → ∀ row,
      ∃ g cap' w', (Builtin.append_ #[78, 78] ty #[.slice base xs.length cap, .slice (some a) news.length c]).run Try.prog w = .ok (sl g (xs.length + news.length) cap') w' ∧ B ≤ g ∧ HasB w' g cap' (xs ++ news) ∧ w.grownBy w' row := by
    intro base cap hold hlt row
    have hfit := growslice_fits (need := xs.length + news.length) (old := cap) (bytes := 1) (by omega) (by omega)
    have hr := run_append_grow_src (P := Try.prog) w 78 78 ty 5 i (.int .u8 0) tyBs hi hz0 base xs.length cap (bytesV xs) hold (.slice (some a) news.length c) news.length (bytesV news) hs hlt (by omega) (by rw [hz2]; omega)
    have hge := grownCap_ge w (xs.length + news.length) cap 5
    have hcm := grownCap_le_maxLen w (xs.length + news.length) cap 5 (by unfold maxLen; omega)
    have hz : ∀ k, (Builtin.zeroCells (Value.int .u8 0).cells k).toList.length = k := fun k => by simp [size_zeroCells, Value.cells]
    refine ⟨w.heap.size, _, _, hr, hB, hasB_new w.drew (xs ++ news) _ _ ?_ hcm _ (by rw [Array.toList_append]; simp [bytesV]; rfl) (0, 0) (fun j _ => by simp), ⟨rfl, rfl, rfl, by simp, fun k hk _ => Below.heap_alloc w.drew _ k hk⟩⟩
    rw [List.length_append, hz]; omega
  rcases h with ⟨rfl, rfl⟩ | ⟨g, cap, rfl, hg, h⟩
  · have hold : (Builtin.firstCells i.size 0 (.slice none 0 0)).run Try.prog w.drew = .ok (bytesV []).toArray w.drew := run_firstCells_none w.drew i.size 0 0 0
    exact grow none 0 hold (by simpa using hm) _
  · by_cases hroom : xs.length + news.length ≤ cap
    · have hr := run_append_room_src (P := Try.prog) w 78 78 ty 5 i tyBs hi g 0 xs.length cap (.slice (some a) news.length c) news.length (bytesV news) hs hroom
        (fun j hj => by rw [hz1]; exact h.there _ (by simp at hj; omega)) (fun j hj => by rw [hz1]; exact h.free _ (by simp at hj; omega))
      rw [hz1, Nat.mul_one, Nat.zero_add] at hr
      obtain ⟨hgr, hsz⟩ := grownBy_setCells w g xs.length (bytesV news)
      refine ⟨g, cap, _, hr, hg, ⟨by rw [hsz]; exact h.lt, by rw [List.length_append]; exact hroom, h.few, fun j hj => ?_, fun j hj => ?_, fun j hj => ?_⟩, hgr⟩
      · by_cases hin : xs.length ≤ j ∧ j < xs.length + (bytesV news).length
        · have := World.cell?_setCells_in g (bytesV news) xs.length w (fun j hj => h.there _ (by simp at hj; omega)) (j - xs.length) (by omega)
          rw [show xs.length + (j - xs.length) = j by omega] at this
          rw [this]; rfl
        · rw [World.cell?_setCells_out g (bytesV news) xs.length w ⟨g, j, none⟩ (fun _ _ => by dsimp only; omega)]; exact h.there j hj
      · rw [World.frozen?_setCells]; exact h.free j hj
      · rw [List.length_append] at hj
        by_cases hin : xs.length ≤ j
        · have := World.cell?_setCells_in g (bytesV news) xs.length w (fun j hj => h.there _ (by simp at hj; omega)) (j - xs.length) (by simp; omega)
          rw [show xs.length + (j - xs.length) = j by omega] at this
          have hlt : j - xs.length < news.length := by omega
          rw [this, wd_app_right hin]
          simp [wd, List.getElem?_eq_getElem hlt]
        · rw [World.cell?_setCells_out g (bytesV news) xs.length w ⟨g, j, none⟩ (fun _ _ => by dsimp only; omega), wd_app_left (by omega)]; exact h.cell j (by omega)
    · exact grow _ cap (by rw [hz1]; exact run_firstCells_some (P := Try.prog) w.drew 1 xs.length ⟨g, 0, none⟩ xs.length cap (bytesV xs) (by simp) (fun j u hj => by
        obtain ⟨hlt, rfl⟩ := bytesV_at hj
        rw [add_plain, Nat.zero_add]; simpa using h.cell j hlt)) (by omega) _

theorem wpList_append_B {ops : Array Oper} {rest : List Oper} {o : Oper} {a : Act} {w : World} {Q : Exit → Act → World → Prop} (hgd : o.guard = none) (s x : Operand)
    (ho : o.op = .call { callee := .builtin .append, args := #[s, x], argTypes := #[78, 78] }) (B : Nat) (v : Value) (xs : List Int) (hs : a.eval s = v) (hown : OwnB w B v xs)
    (ad : Addr) (m c : Nat) (news : List Int) (hx : a.eval x = .slice (some ad) m c) (hl : news.length = m) (hc : ∀ j u, (bytesV news)[j]? = some u → w.cell? (ad.add j) = some u) (hm : 0 < m) (hb : xs.length + m ≤ 1000000) (hB : B ≤ w.heap.size)
    (h : ∀ g cap w', B ≤ g → HasB w' g cap (xs ++ news) → w.grownBy w' v.ownBlock → wpList Try.prog ops Q rest (a.put o.dst (sl g (xs.length + m) cap)) w') : wpList Try.prog ops Q (o :: rest) a w := by
  refine wpList_plain hgd fun K' hK' => ?_
  obtain ⟨g, cap, w', hr, r1, r2, r3⟩ := run_append_B w B o.type v xs hown ad m c news hl hc hm hb hB
  unfold Oper.wp
  simp [execOp, ho, resolve, invoke, builtin, hs, hx, hr, Result.andThen]
  exact hK' _ _ (h g cap w' r1 r2 r3)
theorem step_append_B {ops : Array Oper} {o : Oper} {a : Act} {w : World} {K : Act → World → Prop} {Q : Exit → Act → World → Prop} {E : Prop} (hgd : o.guard = none) (s x : Operand)
    (ho : o.op = .call { callee := .builtin .append, args := #[s, x], argTypes := #[78, 78] }) (B : Nat) (v : Value) (xs : List Int) (hs : a.eval s = v) (hown : OwnB w B v xs)
    (ad : Addr) (m c : Nat) (news : List Int) (hx : a.eval x = .slice (some ad) m c) (hl : news.length = m) (hc : ∀ j u, (bytesV news)[j]? = some u → w.cell? (ad.add j) = some u) (hm : 0 < m) (hb : xs.length + m ≤ 1000000) (hB : B ≤ w.heap.size)
    (h : ∀ g cap w', B ≤ g → HasB w' g cap (xs ++ news) → w.grownBy w' v.ownBlock → K (a.put o.dst (sl g (xs.length + m) cap)) w') :
    if Region.wanted o (yielded ops a.tmps) = true then Oper.wp Try.prog o a w K Q else E := by
  have hw : Region.wanted o (yielded ops a.tmps) = true := by simp [Region.wanted, hgd]
  rw [if_pos hw]
  obtain ⟨g, cap, w', hr, r1, r2, r3⟩ := run_append_B w B o.type v xs hown ad m c news hl hc hm hb hB
  unfold Oper.wp
  simp [execOp, ho, resolve, invoke, builtin, hs, hx, hr, Result.andThen]
  exact h g cap w' r1 r2 r3

/-- A string of bytes. -/
theorem str_row {w : World} {b off n cap : Nat} {xs : List Int} (h : BRow w b off xs) (hn : n = xs.length) : (convert 78 9 (.slice (some ⟨b, off, none⟩) n cap)).run Try.prog w = .ok (.string (strOfNums xs)) w :=
  run_convert_bytes_arg w 78 5 tyBs tyB b off n cap xs hn.symm (fun i hi => h.cell i (by omega)) 9 tyStr
/-- The marked row of a constant string of bytes. -/
theorem hasB_const (w : World) (xs : List Int) (A : Array Value) (hA : A.toList = bytesV xs) (hm : xs.length ≤ 1000) : HasB (w.alloc (.cells A 5 (A.size, A.size + 1))) w.heap.size xs.length xs :=
  hasB_new w xs [] _ (by simp) (by unfold maxLen; omega) A (by simpa using hA) _ (fun j hj => by
    have : A.size = xs.length := by rw [← Array.length_toList, hA]; simp
    simp; omega)
theorem hasB_lit (w : World) (xs : List Int) (A : Array Value) (hA : A.toList = bytesV xs) (hm : xs.length ≤ 1000) : HasB (w.alloc (.cells A 5)) w.heap.size xs.length xs :=
  hasB_new w xs [] _ (by simp) (by unfold maxLen; omega) A (by simpa using hA) _ (fun j hj => by simp)
end Go.Proofs.Ytmgmbgacdjebgaa
