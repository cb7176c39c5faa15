/- Rows of structs in memory: an append of one of whatever size; rows of tokens; a piece of a string. Nothing of a seat's numbers in it. -/
import Derived.Test.YtkmnlmoalobmjadDoorTextBase
import Derived.Test.YtkmnlmoalobmjadDoorLexPlain
namespace Go.Proofs.YtkmnlmoalobmjadDoor
open Go.RowKit

/-- What is told of a type of elements: its slices, its cells and bytes. -/
structure Elem (t e : TypeId) (size bytes : Nat) : Prop where
  under : Tryd.prog.underlying t = some (.slice e)
  info : ∃ i z, Tryd.prog.info? e = some i ∧ i.zero = some z ∧ i.size = size ∧ i.bytes = bytes ∧ z.cells.size = size
  pos : 0 < size
  few : bytes ≤ 1000
/-- append of one struct to a row of one's own: where the row lies then. -/
theorem append_whereN {t e : TypeId} {size bytes : Nat} (he : Elem t e size bytes) {w : World} {ty : TypeId} {base n c : Nat} {v v' : Value} {w' : World} {xs news : List Value} {ad : Addr} (hown : w.ownsRow base e size v n xs) (hn : news.length = size) (hx : ∀ j u, news[j]? = some u → w.cell? (ad.add j) = some u) (h1 : ∀ u ∈ news, u.oneCell' = true) (hb : n ≤ 1000000)
    (hr : (Builtin.append_ #[t, t] ty #[v, .slice (some ad) 1 c]).run Tryd.prog w = .ok v' w') : v'.ownBlock = v.ownBlock ∨ v'.ownBlock = some w.heap.size := by
  obtain ⟨i, z, hi, hz0, hz1, hz2, hz3⟩ := he.info
  have hf := he.few
  rcases hown.2 with ⟨rfl, rfl⟩ | ⟨g, cap, cur, rfl, hbg, hg, hnc, hcm, hcs, htake⟩
  · have h := run_append_nil (P := Tryd.prog) w t ty e i _ he.under hi hz0 ad 1 c news (by rw [hz1, Nat.one_mul]; exact hn) hx (by omega) (by omega) (by rw [hz2]; omega)
    rw [h] at hr
    injection hr with e1 e2
    subst e1; exact Or.inr rfl
  · by_cases hroom : n + 1 ≤ cap
    · obtain ⟨w2, h, _⟩ := run_append_fits (P := Tryd.prog) w base t ty e i size he.under hi hz1 g n cap xs hown ad 1 c news (by rw [Nat.one_mul]; exact hn) hx h1 hroom
      rw [h] at hr
      injection hr with e1 e2
      subst e1; exact Or.inl rfl
    · have hm : (n + 1) * i.bytes ≤ 140737488355328 := by
        rw [hz2]
        exact Nat.le_trans (Nat.mul_le_mul (show n + 1 ≤ 1000001 by omega) hf) (by decide)
      have h := run_append_grow (P := Tryd.prog) w t ty e i _ he.under hi hz0 ⟨g, 0, none⟩ n cap xs (by rw [hown.1, hz1]) (hown.cells (g := g) rfl) ad 1 c news (by rw [hz1, Nat.one_mul]; exact hn) hx (by omega) (by omega) (growslice_fits (by omega) hm)
      rw [h] at hr
      injection hr with e1 e2
      subst e1; exact Or.inr rfl
theorem wpList_append_whereN {t e : TypeId} {size bytes : Nat} (he : Elem t e size bytes) {ops : Array Oper} {rest : List Oper} {o : Oper} {a : Act} {w : World} {Q : Exit → Act → World → Prop} (hgd : o.guard = none) (s x : Operand)
    (ho : o.op = .call { callee := .builtin .append, args := #[s, x], argTypes := #[t, t] }) (base n c : Nat) (v : Value) (xs news : List Value) (hs : a.eval s = v) (hown : w.ownsRow base e size v n xs)
    (ad : Addr) (hx : a.eval x = .slice (some ad) 1 c) (hn : news.length = size) (hc : ∀ j u, news[j]? = some u → w.cell? (ad.add j) = some u) (h1 : ∀ u ∈ news, u.oneCell' = true) (hb : n ≤ 1000000) (hbase : base ≤ w.heap.size)
    (h : ∀ g cap' w', w'.ownsRow base e size (sl g (n + 1) cap') (n + 1) (xs ++ news) → w.grownBy w' v.ownBlock → (v.ownBlock = some g ∨ g = w.heap.size) → wpList Tryd.prog ops Q rest (a.put o.dst (sl g (n + 1) cap')) w') : wpList Tryd.prog ops Q (o :: rest) a w := by
  refine wpList_plain hgd fun K' hK' => ?_
  obtain ⟨i, z, hi, hz0, hz1, hz2, hz3⟩ := he.info
  have hm : (n + 1) * bytes ≤ 140737488355328 := Nat.le_trans (Nat.mul_le_mul (show n + 1 ≤ 1000001 by omega) he.few) (by decide)
  obtain ⟨v', w', hr, r1, r2, _⟩ := run_append_own (P := Tryd.prog) w base t o.type e i _ size bytes he.under hi hz0 hz1 hz2 hz3 he.pos v n xs hown ad 1 c news (by rw [Nat.one_mul]; exact hn) hc h1 (by unfold maxLen; omega) hm hbase
  have hw := append_whereN he hown hn hc h1 hb hr
  rcases r1.2 with ⟨_, h0⟩ | ⟨g, cap, cur, rfl, r⟩
  · omega
  · unfold Oper.wp
    simp [execOp, ho, resolve, invoke, builtin, hs, hx, hr, Result.andThen]
    exact hK' _ _ (h g cap w' r1 r2 (by rcases hw with hw | hw; exact Or.inl hw.symm; exact Or.inr (by simpa [Value.ownBlock] using hw)))

/-! Rows of tokens. -/
def tokV (t : Tok) : List Value := [.int .i64 t.1, .string (strOfNums t.2.1), .int .i64 (t.2.2 : Int)]
def toksV (l : List Tok) : List Value := l.flatMap tokV
theorem toksV_length (l : List Tok) : (toksV l).length = l.length * 3 := by
  unfold toksV
  induction l with
  | nil => rfl
  | cons a l ih => rw [List.flatMap_cons, List.length_append, ih]; simp [tokV]; omega
theorem toksV_snoc (l : List Tok) (t : Tok) : toksV (l ++ [t]) = toksV l ++ tokV t := by simp [toksV, List.flatMap_append]
theorem tokV_one (t : Tok) : ∀ u ∈ tokV t, u.oneCell' = true := fun u hu => by
  unfold tokV at hu
  simp at hu
  rcases hu with rfl | rfl | rfl <;> rfl
def tokAt (l : List Tok) (k : Nat) : Tok := l.getD k (0, [], 0)
theorem toksV_at (l : List Tok) : ∀ (k : Nat), k < l.length → (toksV l)[k * 3]? = some (.int .i64 (tokAt l k).1) ∧ (toksV l)[k * 3 + 1]? = some (.string (strOfNums (tokAt l k).2.1)) ∧ (toksV l)[k * 3 + 2]? = some (.int .i64 ((tokAt l k).2.2 : Int)) := by
  induction l with
  | nil => intro k hk; cases hk
  | cons a r ih =>
    intro k hk
    have e : toksV (a :: r) = .int .i64 a.1 :: .string (strOfNums a.2.1) :: .int .i64 (a.2.2 : Int) :: toksV r := by simp [toksV, tokV]
    rw [e]
    cases k with
    | zero => exact ⟨rfl, rfl, rfl⟩
    | succ k =>
      obtain ⟨h1, h2, h3⟩ := ih k (by simp at hk; omega)
      refine ⟨?_, ?_, ?_⟩
      · rw [show (k + 1) * 3 = k * 3 + 3 by omega]; exact h1
      · rw [show (k + 1) * 3 + 1 = k * 3 + 1 + 3 by omega]; exact h2
      · rw [show (k + 1) * 3 + 2 = k * 3 + 2 + 3 by omega]; exact h3
/-- A slice that reads as those tokens. -/
def ReadsT (w : World) (v : Value) (l : List Tok) : Prop :=
  ∃ ad c, v = .slice ad l.length c ∧ (0 < l.length → ∃ b off, ad = some ⟨b, off, none⟩ ∧ b < w.heap.size ∧ ∀ k, k < l.length → w.cell? ⟨b, off + k * 3, none⟩ = some (.int .i64 (tokAt l k).1) ∧ w.cell? ⟨b, off + k * 3 + 1, none⟩ = some (.string (strOfNums (tokAt l k).2.1)) ∧ w.cell? ⟨b, off + k * 3 + 2, none⟩ = some (.int .i64 ((tokAt l k).2.2 : Int)))
theorem ReadsT.of_own {w : World} {B : Nat} {e : TypeId} {v : Value} {l : List Tok} (h : w.ownsRow B e 3 v l.length (toksV l)) : ReadsT w v l := by
  rcases h.2 with ⟨rfl, h0⟩ | ⟨g, cap, cur, rfl, hg, r⟩
  · exact ⟨none, 0, by rw [h0], fun h => by omega⟩
  · refine ⟨_, _, rfl, fun _ => ⟨g, 0, rfl, (h.lt g rfl).2, fun k hk => ?_⟩⟩
    obtain ⟨p1, p2, p3⟩ := toksV_at l k hk
    rw [Nat.zero_add]
    exact ⟨by rw [h.cellAt (k * 3) (by omega)]; exact p1, by rw [h.cellAt (k * 3 + 1) (by omega)]; exact p2, by rw [h.cellAt (k * 3 + 2) (by omega)]; exact p3⟩
theorem ReadsT.below {w w' : World} {v : Value} {l : List Tok} (h : ReadsT w v l) (hb : Below w.heap.size w w') : ReadsT w' v l := by
  obtain ⟨ad, c, hv, hr⟩ := h
  refine ⟨ad, c, hv, fun h0 => ?_⟩
  obtain ⟨b, off, he, hlt, hc⟩ := hr h0
  refine ⟨b, off, he, by have := hb.size; omega, fun k hk => ?_⟩
  obtain ⟨c1, c2, c3⟩ := hc k hk
  exact ⟨by rw [hb.cell (p := ⟨b, off + k * 3, none⟩) hlt]; exact c1, by rw [hb.cell (p := ⟨b, off + k * 3 + 1, none⟩) hlt]; exact c2, by rw [hb.cell (p := ⟨b, off + k * 3 + 2, none⟩) hlt]; exact c3⟩
/-! A piece of a string. -/
theorem nums_extract (t : ByteArray) (i j : Nat) : nums (t.extract i j) = piece (nums t) i j := by
  unfold nums piece
  rw [ByteArray.data_extract, Array.toList_extract, List.extract_eq_take_drop, ← List.map_drop, ← List.map_take]
theorem extract_str (t : ByteArray) (i j : Nat) : t.extract i j = strOfNums (piece (nums t) i j) := by
  rw [← nums_extract, str_nums]
theorem extract_int (t : ByteArray) (i j : Nat) : t.extract (i : Int).toNat (j : Int).toNat = strOfNums (piece (nums t) i j) := by
  rw [Int.toNat_natCast, Int.toNat_natCast, extract_str]
theorem piece_byte (t : ByteArray) (i j : Nat) : ∀ c ∈ piece (nums t) i j, 0 ≤ c ∧ c ≤ 255 := fun c hc => by
  unfold piece at hc
  exact nums_byte t c (List.mem_of_mem_drop (List.mem_of_mem_take hc))
/-- All tokens' texts are bytes. -/
def TokBytes (l : List Tok) : Prop := ∀ t ∈ l, ∀ c ∈ t.2.1, 0 ≤ c ∧ c ≤ 255
end Go.Proofs.YtkmnlmoalobmjadDoor
