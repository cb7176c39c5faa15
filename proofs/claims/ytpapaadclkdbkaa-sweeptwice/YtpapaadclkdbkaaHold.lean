/- (*pairing).hold: whether what is reached from roots and from others is alike. -/
import Derived.Test.YtpapaadclkdbkaaTwoThings
namespace Go.Proofs.Ytpapaadclkdbkaa
open Go.RowKit

/-- What is left to be said behind the first loop. -/
def afterLoop (W V : List Int) (o : Option Pairs) : Bool := match o with | some P => P.all (weakOne W V P) | none => false
theorem hold_after {W V R S : List Int} (h : (eqF (alikeP W V) [] R S).1 = true) : holdP W V R S = afterLoop W V (loopP W V (W.length + 1 - 0) (eqF (alikeP W V) [] R S).2 0) := by
  unfold holdP; rw [if_pos h]; rfl
theorem hold_not {W V R S : List Int} (h : (eqF (alikeP W V) [] R S).1 = false) : holdP W V R S = false := by
  unfold holdP; rw [if_neg (by rw [h]; decide)]
theorem looked_start {W V R S : List Int} (h : (eqF (alikeP W V) [] R S).1 = true) : Looked W V R S (eqF (alikeP W V) [] R S).2 0 := by
  have hRS : R.length = S.length := by
    unfold eqF at h; split at h
    · assumption
    · cases h
  unfold eqF at h ⊢
  rw [if_pos hRS] at h ⊢
  have hv0 : Valid W V R S [] := ⟨by simp [dom], by simp [img], fun x hx => by simp [dom] at hx, fun x hx => by simp [img] at hx⟩
  obtain ⟨a1, _, a3⟩ := eqP_alike (R := R) (S := S) R S [] hRS hv0 (fun x hx ht => .root hx ht) (fun y hy ht => .root hy ht)
  exact ⟨a1, a3 h, fun i hi => by omega, Nat.zero_le _⟩

/-- What a step comes to, by the answers of heads and slots. -/
theorem step_heads {W V : List Int} {P : Pairs} {x y : Int} (h : (headsP W V P (wd W (pl2 x)) (wd W (pl2 x + 1)) (formAt W (pl2 x)) (wd V (pl2 y)) (wd V (pl2 y + 1)) (formAt V (pl2 y))).1 = false) : pairStep W V P x y = none := by
  unfold pairStep headsP at *
  by_cases hc : wd W (pl2 x + 1) = wd V (pl2 y + 1) ∧ formAt W (pl2 x) = formAt V (pl2 y)
  · rw [if_pos hc] at h
    rw [if_neg (fun hd => by rw [h] at hd; cases hd.2.2)]
  · rw [if_neg (fun hd => hc ⟨hd.1, hd.2.1⟩)]
theorem step_more {W V : List Int} {P : Pairs} {x y : Int} (h : (headsP W V P (wd W (pl2 x)) (wd W (pl2 x + 1)) (formAt W (pl2 x)) (wd V (pl2 y)) (wd V (pl2 y + 1)) (formAt V (pl2 y))).1 = true) :
    pairStep W V P x y = (if formAt W (pl2 x) = 2 then some (headsP W V P (wd W (pl2 x)) (wd W (pl2 x + 1)) (formAt W (pl2 x)) (wd V (pl2 y)) (wd V (pl2 y + 1)) (formAt V (pl2 y))).2 else
      (if (eqF (wayP W V (formAt W (pl2 x))) (headsP W V P (wd W (pl2 x)) (wd W (pl2 x + 1)) (formAt W (pl2 x)) (wd V (pl2 y)) (wd V (pl2 y + 1)) (formAt V (pl2 y))).2 (slotList W (pl2 x)) (slotList V (pl2 y))).1 = true then
        some (eqF (wayP W V (formAt W (pl2 x))) (headsP W V P (wd W (pl2 x)) (wd W (pl2 x + 1)) (formAt W (pl2 x)) (wd V (pl2 y)) (wd V (pl2 y + 1)) (formAt V (pl2 y))).2 (slotList W (pl2 x)) (slotList V (pl2 y))).2 else none)) := by
  unfold headsP at *
  by_cases hc : wd W (pl2 x + 1) = wd V (pl2 y + 1) ∧ formAt W (pl2 x) = formAt V (pl2 y)
  · rw [if_pos hc] at h ⊢
    unfold pairStep
    rw [if_pos ⟨hc.1, hc.2, h⟩]
  · rw [if_neg hc] at h; cases h
theorem heads_length (W V : List Int) (P : Pairs) (c1 h1 f1 c2 h2 f2 : Int) : (headsP W V P c1 h1 f1 c2 h2 f2).2.length ≤ P.length + 1 := by
  unfold headsP; split
  · exact alike_length _ _ _ _ _
  · exact Nat.le_succ _
theorem loop_next {W V : List Int} {P : Pairs} {n : Nat} (hn : n < P.length) (hl : P.length ≤ W.length) : loopP W V (W.length + 1 - n) P n = (match pairStep W V P (pairAt P n).1 (pairAt P n).2 with | some P' => loopP W V (W.length + 1 - (n + 1)) P' (n + 1) | none => none) := by
  obtain ⟨k, hk⟩ : ∃ k, W.length + 1 - n = k + 1 := ⟨W.length - n, by omega⟩
  rw [hk, show W.length + 1 - (n + 1) = k by omega]
  conv => lhs; unfold loopP
  rw [if_pos hn]
  cases pairStep W V P (pairAt P n).1 (pairAt P n).2 <;> rfl
theorem loop_done {W V : List Int} {P : Pairs} {n : Nat} (hn : ¬ n < P.length) : ∀ k, loopP W V k P n = some P
  | 0 => rfl
  | k + 1 => by unfold loopP; rw [if_neg hn]

/-- What things says of a pair. -/
def TwoEnd (c1 h1 f1 c2 h2 f2 : Int) (xs ys : List Int) (B : Nat) (e : Ending) (w : World) : Prop :=
  ∃ ad1 k1 ad2 k2, e = .returned (.tuple #[thingV c1 h1 f1 (.slice ad1 xs.length k1), thingV c2 h2 f2 (.slice ad2 ys.length k2)]) ∧ SlotsOwn B xs (.slice ad1 xs.length k1) w ∧ SlotsOwn B ys (.slice ad2 ys.length k2) w
theorem two_end {W V : List Int} {p q B : Nat} {e : Ending} {w : World} (h : TwoAns W V p q B e w) : TwoEnd (wd W p) (wd W (p + 1)) (formAt W p) (wd V q) (wd V (q + 1)) (formAt V q) (slotList W p) (slotList V q) B e w := by
  obtain ⟨v1, v2, he, h1, h2⟩ := h
  obtain ⟨ad1, k1, rfl, r1⟩ := h1
  obtain ⟨ad2, k2, rfl, r2⟩ := h2
  exact ⟨ad1, k1, ad2, k2, he, ⟨ad1, k1, rfl, r1⟩, ad2, k2, rfl, r2⟩
theorem slots_lie {B : Nat} {xs : List Int} {ad : Option Addr} {k : Nat} {w : World} (h : SlotsOwn B xs (.slice ad xs.length k) w) (hwf : ∀ i, (Lit.int .i64 (wd xs i)).wf = true) : 0 < xs.length → ∃ g, ad = some ⟨g, 0, none⟩ ∧ B ≤ g ∧ Row w g 0 xs := fun h0 => by
  obtain ⟨ad', c', hv, hs⟩ := h
  obtain ⟨g, e, hg, ho⟩ := hs h0
  injection hv with e1 _ e3
  subst e1 e3
  exact ⟨g, e, hg, own_lt ho, fun j hj => by rw [Nat.zero_add]; exact own_cell ho hj, hwf⟩
theorem fours_moved {w w' : World} {x0 x1 x2 x3 z0 z1 z2 z3 : Value} {t t' : TypeId} {L m1 m2 Q : Nat} {vp vp' : Value} (hM : Moved L m1 m2 Q vp vp' ((w.alloc (.cells #[x0, x1, x2, x3] t)).alloc (.cells #[z0, z1, z2, z3] t')) w') (h1 : m1 < w.heap.size) (h2 : m2 < w.heap.size) (h3 : Q < w.heap.size) (ho : ∀ g, vp.ownBlock = some g → g < w.heap.size) :
    ∀ j, w'.cell? ⟨w.heap.size, j, none⟩ = #[x0, x1, x2, x3][j]? ∧ w'.cell? ⟨w.heap.size + 1, j, none⟩ = #[z0, z1, z2, z3][j]? := fun j => by
  have b1 := hM.block w.heap.size (by simp; omega) (by omega) (by omega) (by omega) (fun e => by have := ho _ e; omega)
  have b2 := hM.block (w.heap.size + 1) (by simp) (by omega) (by omega) (by omega) (fun e => by have := ho _ e; omega)
  constructor
  · rw [World.cell?_of_block (a := ⟨w.heap.size, j, none⟩) b1, cell_past _ (by simp)]; exact cell_at2 rfl
  · rw [World.cell?_of_block (a := ⟨w.heap.size + 1, j, none⟩) b2]; exact cell_at2 (by simp)
theorem slot_wf {W : List Int} {p : Nat} (h : ∀ k, (Lit.int .i64 (wd W k)).wf = true) (i : Nat) : (Lit.int .i64 (wd (slotList W p) i)).wf = true := by
  have h0 : (Lit.int .i64 0).wf = true := by decide
  by_cases hi : i < slotsAt W p
  · rw [slotList_at hi]; exact h _
  · have : wd (slotList W p) i = 0 := by
      unfold wd slotList
      rw [List.getD_eq_getElem?_getD, List.getElem?_take_eq_none (by omega)]; rfl
    rw [this]; exact h0

theorem pairs_form {w : World} {B n : Nat} {v : Value} {xs : List Value} (h : w.ownsRow B 100 2 v n xs) : ∃ ad c, v = .slice ad n c := by
  rcases h.2 with ⟨rfl, rfl⟩ | ⟨g, cap, cur, rfl, _⟩
  · exact ⟨none, 0, rfl⟩
  · exact ⟨_, _, rfl⟩
theorem pairs_some {w : World} {B n c : Nat} {ad : Option Addr} {P : Pairs} (hn : P.length = n) (h : w.ownsRow B 100 2 (.slice ad n c) n (pvals P)) {k : Nat} (hk : k < n) :
    ∃ g, ad = some ⟨g, 0, none⟩ ∧ g < w.heap.size ∧ w.cell? ⟨g, k * 2, none⟩ = some (.int .i64 (pairAt P k).1) ∧ w.cell? ⟨g, k * 2 + 1, none⟩ = some (.int .i64 (pairAt P k).2) := by
  rcases h.2 with ⟨e, h0⟩ | ⟨g, cap, cur, hv, _⟩
  · omega
  · injection hv with e1 e2 e3
    subst e1 e3
    obtain ⟨p1, p2⟩ := pvals_at P k (by omega)
    refine ⟨g, rfl, (h.lt g rfl).2, ?_, ?_⟩
    · rw [h.cellAt (k * 2) (by omega), Nat.mul_comm]; exact p1
    · rw [h.cellAt (k * 2 + 1) (by omega), Nat.mul_comm k 2]; exact p2

theorem lies_after {xs : List Int} {ad : Option Addr} {k B : Nat} {w2 w4 : World} {o1 o2 : Obj} {L m1 m2 Q : Nat} {vp vp' : Value} (hs : SlotsOwn B xs (.slice ad xs.length k) w2) (hwf : ∀ i, (Lit.int .i64 (wd xs i)).wf = true) (hM : Moved L m1 m2 Q vp vp' ((w2.alloc o1).alloc o2) w4) (h1 : m1 < B) (h2 : m2 < B) (h3 : Q < B) (ho : ∀ g, vp.ownBlock = some g → g < B) : LiesApart m1 m2 Q vp' ad xs w4 := fun h0 => by
  obtain ⟨g, e, hg, hrow⟩ := slots_lie hs hwf h0
  obtain ⟨r, a⟩ := hM.keeps ((hrow.alloc o1).alloc o2) (⟨by omega, by omega, by omega, fun he => by have := ho g he; omega⟩ : Apart m1 m2 Q vp g)
  exact ⟨g, 0, e, r, a⟩

set_option maxHeartbeats 16000000 in
set_option maxRecDepth 100000 in
theorem hold_any (W V R S : List Int) (b cap bm b' cap' bm' L m1 m2 Q : Nat) (D1 D2 : DataW Unit) (rad sad : Option Addr) (rc sc : Nat) (w : World) (h : Pairing W V b cap bm b' cap' bm' L m1 m2 Q [] (.slice none 0 0) D1 D2 w) (fW : Fine W) (fV : Fine V) (hR : LiesApart m1 m2 Q (.slice none 0 0) rad R w) (hS : LiesApart m1 m2 Q (.slice none 0 0) sad S w) (hRl : R.length ≤ 5000) :
    Calls Try.prog 46 #[.pointer (some ⟨Q, 0, none⟩), .slice rad R.length rc, .slice sad S.length sc] w fun e w' => e = .returned (.bool (holdP W V R S)) ∧ Below L w w' := by
  generalize hX : holdP W V R S = X
  have HX : Hid (holdP W V R S = X) := hX
  have HQ : Hid (Calls Try.prog 68 #[.slice rad R.length rc, .slice sad S.length sc, .func (.func 69) #[.pointer (some ⟨Q, 0, none⟩)] #[]] w (PairAns W V b cap bm b' cap' bm' L m1 m2 Q (eqF (alikeP W V) [] R S) (.slice none 0 0) w)) := eq_alike W V R S b cap bm b' cap' bm' L m1 m2 Q [] (.slice none 0 0) D1 D2 rad sad rc sc w h hR hS (by simp; omega)
  clear hX hR hS
  cases hr0 : (eqF (alikeP W V) [] R S).1 with
  | false =>
    have H : Hid (X = false) := HX.out.symm.trans (hold_not hr0)
    go_enter Try.func46, Try.ntmps46
    go_wp2_with (go_at_call 68; refine HQ.out.mono ?_; rintro e w1 ⟨rfl, vp1, D11, D21, hP1, hM1⟩)
    go_ret
    exact ⟨by rw [H.out]; rfl, hM1.below⟩
  | true =>
    have H : Hid (X = afterLoop W V (loopP W V (W.length + 1 - 0) (eqF (alikeP W V) [] R S).2 0)) := HX.out.symm.trans (hold_after hr0)
    have hL0 := looked_start hr0
    go_enter Try.func46, Try.ntmps46
    go_wp2_with (go_at_call 68; refine HQ.out.mono ?_; rintro e w1 ⟨rfl, vp1, D11, D21, hP1, hM1⟩)
    generalize (eqF (alikeP W V) [] R S).2 = P0 at *
    clear hr0 HX HQ h
    go_loopw [7] (fun s wr => ∃ (n : Nat) (P : Pairs) (vp : Value) (D1 D2 : DataW Unit), s = .int .i64 n ∧ Looked W V R S P n ∧ Hid (X = afterLoop W V (loopP W V (W.length + 1 - n) P n)) ∧ Pairing W V b cap bm b' cap' bm' L m1 m2 Q P vp D1 D2 wr ∧ Below L w wr) (fun s _ => W.length + 1 - (intOf s).toNat)
    case atStart => exact ⟨0, P0, vp1, D11, D21, rfl, hL0, H, hP1, hM1.below⟩
    case round =>
      clear hL0 H hP1 hM1
      rename_i wr
      obtain ⟨n, P, vp, D1, D2, rfl, hL, hck, hP, hBL⟩ := hrel
      have hshort := hL.valid.short
      have hfew := fW.few
      have hle := hL.le
      have hQs := hP.size
      have hmid := hP.mid
      have dm1 := hP.one.own.lt
      have dm2 := hP.other.own.lt
      have c6 := hP.c6
      have hbig := hP.big
      obtain ⟨ad, cf, hvp⟩ := pairs_form hP.own
      subst hvp
      by_cases hlt : n < P.length
      · obtain ⟨x, y, hxy⟩ : ∃ x y, pairAt P n = (x, y) := ⟨_, _, rfl⟩
        have hm := pair_mem hlt
        obtain ⟨g, hg0, hgl, cx, cy⟩ := pairs_some rfl hP.own hlt
        rw [hxy] at hm cx cy
        have hxr := hL.valid.left _ (mem_dom hm)
        have hyr := hL.valid.right _ (mem_img hm)
        obtain ⟨hp, hxe⟩ := reached_place hxr
        obtain ⟨hq, hye⟩ := reached_place hyr
        have HT : Hid (∀ w0, Pairing W V b cap bm b' cap' bm' L m1 m2 Q P (.slice ad P.length cf) D1 D2 w0 → Calls Try.prog 70 #[.pointer (some ⟨Q, 0, none⟩), .agg #[.int .i64 x, .int .i64 y]] w0 fun e w' => TwoEnd (wd W (pl2 x)) (wd W (pl2 x + 1)) (formAt W (pl2 x)) (wd V (pl2 y)) (wd V (pl2 y + 1)) (formAt V (pl2 y)) (slotList W (pl2 x)) (slotList V (pl2 y)) w0.heap.size e w' ∧ Below w0.heap.size w0 w') := fun w0 h0 => by
          have := two_any W V b cap bm b' cap' bm' L m1 m2 Q P (.slice ad P.length cf) D1 D2 (pl2 x) (pl2 y) w0 h0 fW fV hp hq
          rw [← hxe, ← hye] at this
          exact this.mono fun e w' hh => ⟨two_end hh.1, hh.2⟩
        have HHd : Hid (∀ w0 v1 v2, Pairing W V b cap bm b' cap' bm' L m1 m2 Q P (.slice ad P.length cf) D1 D2 w0 → Calls Try.prog 71 #[.pointer (some ⟨Q, 0, none⟩), thingV (wd W (pl2 x)) (wd W (pl2 x + 1)) (formAt W (pl2 x)) v1, thingV (wd V (pl2 y)) (wd V (pl2 y + 1)) (formAt V (pl2 y)) v2] w0 (PairAns W V b cap bm b' cap' bm' L m1 m2 Q (headsP W V P (wd W (pl2 x)) (wd W (pl2 x + 1)) (formAt W (pl2 x)) (wd V (pl2 y)) (wd V (pl2 y + 1)) (formAt V (pl2 y))) (.slice ad P.length cf) w0)) := fun w0 v1 v2 h0 => heads_any W V b cap bm b' cap' bm' L m1 m2 Q P _ D1 D2 _ _ _ _ _ _ v1 v2 w0 h0 (hP.view1.wf _) (hP.view2.wf _) (by omega)
        have hhl := heads_length W V P (wd W (pl2 x)) (wd W (pl2 x + 1)) (formAt W (pl2 x)) (wd V (pl2 y)) (wd V (pl2 y + 1)) (formAt V (pl2 y))
        have hsl : (slotList W (pl2 x)).length ≤ 2000 := by unfold slotList; rw [List.length_take, List.length_drop]; omega
        have HSl : formAt W (pl2 x) ≠ 2 → Hid (∀ w0 vp' D1' D2' ad1 k1 ad2 k2, Pairing W V b cap bm b' cap' bm' L m1 m2 Q (headsP W V P (wd W (pl2 x)) (wd W (pl2 x + 1)) (formAt W (pl2 x)) (wd V (pl2 y)) (wd V (pl2 y + 1)) (formAt V (pl2 y))).2 vp' D1' D2' w0 → LiesApart m1 m2 Q vp' ad1 (slotList W (pl2 x)) w0 → LiesApart m1 m2 Q vp' ad2 (slotList V (pl2 y)) w0 → Calls Try.prog 72 #[.pointer (some ⟨Q, 0, none⟩), thingV (wd W (pl2 x)) (wd W (pl2 x + 1)) (formAt W (pl2 x)) (.slice ad1 (slotList W (pl2 x)).length k1), thingV (wd V (pl2 y)) (wd V (pl2 y + 1)) (formAt V (pl2 y)) (.slice ad2 (slotList V (pl2 y)).length k2)] w0 (PairAns W V b cap bm b' cap' bm' L m1 m2 Q (eqF (wayP W V (formAt W (pl2 x))) (headsP W V P (wd W (pl2 x)) (wd W (pl2 x + 1)) (formAt W (pl2 x)) (wd V (pl2 y)) (wd V (pl2 y + 1)) (formAt V (pl2 y))).2 (slotList W (pl2 x)) (slotList V (pl2 y))) vp' w0)) := fun hne w0 vp' D1' D2' ad1 k1 ad2 k2 h0 hx hy => by
          have hpl : (headsP W V P (wd W (pl2 x)) (wd W (pl2 x + 1)) (formAt W (pl2 x)) (wd V (pl2 y)) (wd V (pl2 y + 1)) (formAt V (pl2 y))).2.length + (slotList W (pl2 x)).length ≤ 100000 := by omega
          generalize (headsP W V P (wd W (pl2 x)) (wd W (pl2 x + 1)) (formAt W (pl2 x)) (wd V (pl2 y)) (wd V (pl2 y + 1)) (formAt V (pl2 y))).2 = P1 at *
          rcases fW.form _ hp with f | f | f
          · have ew : wayP W V (formAt W (pl2 x)) = alikeP W V := by unfold wayP; rw [if_neg (by rw [f]; decide), if_neg hne]
            rw [ew, f]
            exact slots_plain W V _ _ b cap bm b' cap' bm' L m1 m2 Q P1 vp' D1' D2' _ _ _ _ _ ad1 ad2 k1 k2 w0 h0 hx hy hpl
          · have ew : wayP W V (formAt W (pl2 x)) = sameP := by unfold wayP; rw [if_pos f]
            rw [ew, f]
            exact slots_bytes W V _ _ b cap bm b' cap' bm' L m1 m2 Q P1 vp' D1' D2' _ _ _ _ _ ad1 ad2 k1 k2 w0 h0 hx hy hpl
          · exact absurd f hne
        have hnn := loop_next (V := V) hlt hshort
        rw [hxy] at hnn
        have hnx : ∀ P', pairStep W V P x y = some P' → Looked W V R S P' (n + 1) := fun P' hs => hL.next fW.form hlt (by rw [hxy]; exact hs)
        have HNX : Hid _ := hnx
        have hni : (n : Int) < (P.length : Int) := by omega
        subst hg0
        clear hxe hye hxy hp hq hhl hsl
        cases hr1 : (headsP W V P (wd W (pl2 x)) (wd W (pl2 x + 1)) (formAt W (pl2 x)) (wd V (pl2 y)) (wd V (pl2 y + 1)) (formAt V (pl2 y))).1 with
        | false =>
          have H : Hid (X = false) := by have := hck.out; rw [hnn, step_heads hr1] at this; exact this
          clear hck hnn hnx HNX HSl hm hxr hyr hL
          go_wp2_with (first | (go_at_call 70; refine (HT.out _ hP).mono ?_; rintro e w2 ⟨⟨ad1, k1, ad2, k2, rfl, s1, s2⟩, hb2⟩; have hP2 := hP.same hb2; have hz2 := hb2.size) | (go_at_call 71; refine (HHd.out _ _ _ (hP2.same (((Below.refl _ _).alloc (Nat.le_refl _) _).alloc (by simp) _))).mono ?_; rintro e w4 ⟨rfl, vp4, D14, D24, hP4, hM4⟩; have hF4 := fours_moved hM4 (by omega) (by omega) (by omega) (fun g hg => by have := (hP.own.lt g hg).2; omega); have x0 := (hF4 0).1; have x1 := (hF4 1).1; have x2 := (hF4 2).1; have x3 := (hF4 3).1; have y0 := (hF4 0).2; have y1 := (hF4 1).2; have y2 := (hF4 2).2; have y3 := (hF4 3).2; clear hF4))
          go_ret
          exact ⟨by rw [H.out]; rfl, (hBL.trans (((hb2.mono hbig).trans (((Below.refl L w2).alloc (by omega) _).alloc (by simp; omega) _)).trans hM4.below))⟩
        | true =>
          have hst := step_more hr1
          by_cases f2 : formAt W (pl2 x) = 2
          · have e2 : (formAt W (pl2 x) != 2) = false := by simp [f2]
            have hs2 : pairStep W V P x y = some (headsP W V P (wd W (pl2 x)) (wd W (pl2 x + 1)) (formAt W (pl2 x)) (wd V (pl2 y)) (wd V (pl2 y + 1)) (formAt V (pl2 y))).2 := by rw [hst, if_pos f2]
            have H : Hid (X = afterLoop W V (loopP W V (W.length + 1 - (n + 1)) (headsP W V P (wd W (pl2 x)) (wd W (pl2 x + 1)) (formAt W (pl2 x)) (wd V (pl2 y)) (wd V (pl2 y + 1)) (formAt V (pl2 y))).2 (n + 1))) := by have := hck.out; rw [hnn, hs2] at this; exact this
            have hLn : Hid (Looked W V R S (headsP W V P (wd W (pl2 x)) (wd W (pl2 x + 1)) (formAt W (pl2 x)) (wd V (pl2 y)) (wd V (pl2 y + 1)) (formAt V (pl2 y))).2 (n + 1)) := hnx _ hs2
            clear hck hnn hnx HNX HSl hm hxr hyr hL hst hs2 f2
            go_wp2_with (first | (go_at_call 70; refine (HT.out _ hP).mono ?_; rintro e w2 ⟨⟨ad1, k1, ad2, k2, rfl, s1, s2⟩, hb2⟩; have hP2 := hP.same hb2; have hz2 := hb2.size) | (go_at_call 71; refine (HHd.out _ _ _ (hP2.same (((Below.refl _ _).alloc (Nat.le_refl _) _).alloc (by simp) _))).mono ?_; rintro e w4 ⟨rfl, vp4, D14, D24, hP4, hM4⟩; have hF4 := fours_moved hM4 (by omega) (by omega) (by omega) (fun g hg => by have := (hP.own.lt g hg).2; omega); have x0 := (hF4 0).1; have x1 := (hF4 1).1; have x2 := (hF4 2).1; have x3 := (hF4 3).1; have y0 := (hF4 0).2; have y1 := (hF4 1).2; have y2 := (hF4 2).2; have y3 := (hF4 3).2; clear hF4))
            go_roundw
            case rel => exact ⟨n + 1, _, vp4, D14, D24, by first | rfl | simp, hLn.out, H, hP4, (hBL.trans (((hb2.mono hbig).trans (((Below.refl L w2).alloc (by omega) _).alloc (by simp; omega) _)).trans hM4.below))⟩
            case measure => simp [intOf]; omega
          · have e2 : (formAt W (pl2 x) != 2) = true := by simpa using f2
            have HSl := HSl f2
            rw [if_neg f2] at hst
            cases hr2 : (eqF (wayP W V (formAt W (pl2 x))) (headsP W V P (wd W (pl2 x)) (wd W (pl2 x + 1)) (formAt W (pl2 x)) (wd V (pl2 y)) (wd V (pl2 y + 1)) (formAt V (pl2 y))).2 (slotList W (pl2 x)) (slotList V (pl2 y))).1 with
            | true =>
              have hs2 : pairStep W V P x y = some (eqF (wayP W V (formAt W (pl2 x))) (headsP W V P (wd W (pl2 x)) (wd W (pl2 x + 1)) (formAt W (pl2 x)) (wd V (pl2 y)) (wd V (pl2 y + 1)) (formAt V (pl2 y))).2 (slotList W (pl2 x)) (slotList V (pl2 y))).2 := by rw [hst, if_pos hr2]
              have H : Hid (X = afterLoop W V (loopP W V (W.length + 1 - (n + 1)) (eqF (wayP W V (formAt W (pl2 x))) (headsP W V P (wd W (pl2 x)) (wd W (pl2 x + 1)) (formAt W (pl2 x)) (wd V (pl2 y)) (wd V (pl2 y + 1)) (formAt V (pl2 y))).2 (slotList W (pl2 x)) (slotList V (pl2 y))).2 (n + 1))) := by have := hck.out; rw [hnn, hs2] at this; exact this
              have hLn : Hid (Looked W V R S (eqF (wayP W V (formAt W (pl2 x))) (headsP W V P (wd W (pl2 x)) (wd W (pl2 x + 1)) (formAt W (pl2 x)) (wd V (pl2 y)) (wd V (pl2 y + 1)) (formAt V (pl2 y))).2 (slotList W (pl2 x)) (slotList V (pl2 y))).2 (n + 1)) := hnx _ hs2
              clear hck hnn hnx HNX hm hxr hyr hL hst hs2 f2
              go_wp2_with (first | (go_at_call 70; refine (HT.out _ hP).mono ?_; rintro e w2 ⟨⟨ad1, k1, ad2, k2, rfl, s1, s2⟩, hb2⟩; have hP2 := hP.same hb2; have hz2 := hb2.size) | (go_at_call 71; refine (HHd.out _ _ _ (hP2.same (((Below.refl _ _).alloc (Nat.le_refl _) _).alloc (by simp) _))).mono ?_; rintro e w4 ⟨rfl, vp4, D14, D24, hP4, hM4⟩; have hF4 := fours_moved hM4 (by omega) (by omega) (by omega) (fun g hg => by have := (hP.own.lt g hg).2; omega); have x0 := (hF4 0).1; have x1 := (hF4 1).1; have x2 := (hF4 2).1; have x3 := (hF4 3).1; have y0 := (hF4 0).2; have y1 := (hF4 1).2; have y2 := (hF4 2).2; have y3 := (hF4 3).2; clear hF4) | (go_at_call 72; refine (HSl.out _ vp4 D14 D24 ad1 k1 ad2 k2 hP4 (lies_after s1 (slot_wf hP.view1.wf) hM4 (by omega) (by omega) (by omega) (fun g hg => (hP.own.lt g hg).2)) (lies_after s2 (slot_wf hP.view2.wf) hM4 (by omega) (by omega) (by omega) (fun g hg => (hP.own.lt g hg).2))).mono ?_; rintro e w5 ⟨rfl, vp5, D15, D25, hP5, hM5⟩))
              go_roundw
              case rel => exact ⟨n + 1, _, vp5, D15, D25, by first | rfl | simp, hLn.out, H, hP5, (hBL.trans (((hb2.mono hbig).trans (((Below.refl L w2).alloc (by omega) _).alloc (by simp; omega) _)).trans hM4.below)).trans hM5.below⟩
              case measure => simp [intOf]; omega
            | false =>
              have H : Hid (X = false) := by have := hck.out; rw [hnn, hst, if_neg (by rw [hr2]; decide)] at this; exact this
              clear hck hnn hnx HNX hm hxr hyr hL hst f2
              go_wp2_with (first | (go_at_call 70; refine (HT.out _ hP).mono ?_; rintro e w2 ⟨⟨ad1, k1, ad2, k2, rfl, s1, s2⟩, hb2⟩; have hP2 := hP.same hb2; have hz2 := hb2.size) | (go_at_call 71; refine (HHd.out _ _ _ (hP2.same (((Below.refl _ _).alloc (Nat.le_refl _) _).alloc (by simp) _))).mono ?_; rintro e w4 ⟨rfl, vp4, D14, D24, hP4, hM4⟩; have hF4 := fours_moved hM4 (by omega) (by omega) (by omega) (fun g hg => by have := (hP.own.lt g hg).2; omega); have x0 := (hF4 0).1; have x1 := (hF4 1).1; have x2 := (hF4 2).1; have x3 := (hF4 3).1; have y0 := (hF4 0).2; have y1 := (hF4 1).2; have y2 := (hF4 2).2; have y3 := (hF4 3).2; clear hF4) | (go_at_call 72; refine (HSl.out _ vp4 D14 D24 ad1 k1 ad2 k2 hP4 (lies_after s1 (slot_wf hP.view1.wf) hM4 (by omega) (by omega) (by omega) (fun g hg => (hP.own.lt g hg).2)) (lies_after s2 (slot_wf hP.view2.wf) hM4 (by omega) (by omega) (by omega) (fun g hg => (hP.own.lt g hg).2))).mono ?_; rintro e w5 ⟨rfl, vp5, D15, D25, hP5, hM5⟩))
              go_ret
              exact ⟨by rw [H.out]; rfl, (hBL.trans (((hb2.mono hbig).trans (((Below.refl L w2).alloc (by omega) _).alloc (by simp; omega) _)).trans hM4.below)).trans hM5.below⟩
      · have H1 : Hid (X = P.all (weakOne W V P)) := by have := hck.out; rw [loop_done hlt] at this; exact this
        have hv := hL.valid
        clear hck hL hle
        go_wp2_with fail
        go_loopw [63] (fun s wr2 => ∃ (k : Nat), s = .int .i64 k ∧ k ≤ P.length ∧ Hid (X = (P.drop k).all (weakOne W V P)) ∧ Below wr.heap.size wr wr2) (fun s _ => P.length - (intOf s).toNat)
        case atStart => exact ⟨0, rfl, Nat.zero_le _, H1, Below.refl _ _⟩
        case round =>
          clear H1
          obtain ⟨k, rfl, hk, hck, hB2⟩ := hrel
          have hP2 := hP.same hB2
          by_cases hltk : k < P.length
          · obtain ⟨x, y, hxy⟩ : ∃ x y, pairAt P k = (x, y) := ⟨_, _, rfl⟩
            have hm := pair_mem hltk
            obtain ⟨g, hg0, hgl, cx, cy⟩ := pairs_some rfl hP2.own hltk
            rw [hxy] at hm cx cy
            have hxr := hv.left _ (mem_dom hm)
            have hyr := hv.right _ (mem_img hm)
            obtain ⟨hp, hxe⟩ := reached_place hxr
            obtain ⟨hq, hye⟩ := reached_place hyr
            have HT : Hid (∀ w0, Pairing W V b cap bm b' cap' bm' L m1 m2 Q P (.slice ad P.length cf) D1 D2 w0 → Calls Try.prog 70 #[.pointer (some ⟨Q, 0, none⟩), .agg #[.int .i64 x, .int .i64 y]] w0 fun e w' => TwoEnd (wd W (pl2 x)) (wd W (pl2 x + 1)) (formAt W (pl2 x)) (wd V (pl2 y)) (wd V (pl2 y + 1)) (formAt V (pl2 y)) (slotList W (pl2 x)) (slotList V (pl2 y)) w0.heap.size e w' ∧ Below w0.heap.size w0 w') := fun w0 h0 => by
              have := two_any W V b cap bm b' cap' bm' L m1 m2 Q P (.slice ad P.length cf) D1 D2 (pl2 x) (pl2 y) w0 h0 fW fV hp hq
              rw [← hxe, ← hye] at this
              exact this.mono fun e w' hh => ⟨two_end hh.1, hh.2⟩
            have hdr : P.drop k = (x, y) :: P.drop (k + 1) := by
              rw [List.drop_eq_getElem_cons hltk]
              have : P[k] = (x, y) := by unfold pairAt at hxy; rw [List.getD_eq_getElem?_getD, List.getElem?_eq_getElem hltk] at hxy; exact hxy
              rw [this]
            have hsl : (slotList W (pl2 x)).length ≤ 100000 := by unfold slotList; rw [List.length_take, List.length_drop]; omega
            have hki : (k : Int) < (P.length : Int) := by omega
            subst hg0
            clear hxe hye hxy hp hq hm hxr hyr
            by_cases f2 : formAt W (pl2 x) = 2
            · have e2 : (formAt W (pl2 x) == 2) = true := by simp [f2]
              have HW : Hid (∀ w0 ad1 k1 ad2 k2, Pairing W V b cap bm b' cap' bm' L m1 m2 Q P (.slice (some ⟨g, 0, none⟩) P.length cf) D1 D2 w0 → RootsAt ad1 (slotList W (pl2 x)) w0 → RootsAt ad2 (slotList V (pl2 y)) w0 → Calls Try.prog 72 #[.pointer (some ⟨Q, 0, none⟩), thingV (wd W (pl2 x)) (wd W (pl2 x + 1)) (formAt W (pl2 x)) (.slice ad1 (slotList W (pl2 x)).length k1), thingV (wd V (pl2 y)) (wd V (pl2 y + 1)) (formAt V (pl2 y)) (.slice ad2 (slotList V (pl2 y)).length k2)] w0 (StillAns (eqF (weakP W V) P (slotList W (pl2 x)) (slotList V (pl2 y))) w0)) := fun w0 ad1 k1 ad2 k2 h0 hx hy => by
                rw [f2]
                exact slots_weak W V _ _ b cap bm b' cap' bm' L m1 m2 Q P _ D1 D2 _ _ _ _ _ ad1 ad2 k1 k2 w0 h0 hx hy hsl
              have hw1 : weakOne W V P (x, y) = (eqF (weakP W V) P (slotList W (pl2 x)) (slotList V (pl2 y))).1 := by unfold weakOne; rw [if_pos f2]
              clear f2 hsl
              cases hr : (eqF (weakP W V) P (slotList W (pl2 x)) (slotList V (pl2 y))).1 with
              | true =>
                have H : Hid (X = (P.drop (k + 1)).all (weakOne W V P)) := by have := hck.out; rw [hdr, List.all_cons, hw1, hr, Bool.true_and] at this; exact this
                clear hck hdr hw1
                go_wp2_with (first | (go_at_call 70; refine (HT.out _ (hP2.same ((Below.refl _ _).alloc (Nat.le_refl _) _))).mono ?_; rintro e w3 ⟨⟨ad1, k1, ad2, k2, rfl, s1, s2⟩, hb3⟩; have hb3' := below_call hb3) | (go_at_call 72; refine (HW.out _ ad1 k1 ad2 k2 ((hP2.same hb3').same (((Below.refl _ _).alloc (Nat.le_refl _) _).alloc (by simp) _)) (RootsAt.below (fun h0 => let ⟨g, e, _, r⟩ := slots_lie s1 (slot_wf hP.view1.wf) h0; ⟨g, 0, e, r⟩) (((Below.refl _ _).alloc (Nat.le_refl _) _).alloc (by simp) _)) (RootsAt.below (fun h0 => let ⟨g, e, _, r⟩ := slots_lie s2 (slot_wf hP.view2.wf) h0; ⟨g, 0, e, r⟩) (((Below.refl _ _).alloc (Nat.le_refl _) _).alloc (by simp) _))).mono ?_; rintro e w5 ⟨rfl, hb5⟩))
                go_roundw
                case rel => exact ⟨k + 1, by first | rfl | simp, by omega, H, (hB2.trans ((hb3'.mono hB2.size).trans (((Below.refl _ w3).alloc (by have := hB2.size; have := hb3'.size; omega) _).alloc (by have := hB2.size; have := hb3'.size; simp; omega) _))).trans (hb5.mono (by have := hB2.size; have := hb3'.size; simp; omega))⟩
                case measure => simp [intOf]; omega
              | false =>
                have H : Hid (X = false) := by have := hck.out; rw [hdr, List.all_cons, hw1, hr, Bool.false_and] at this; exact this
                clear hck hdr hw1
                go_wp2_with (first | (go_at_call 70; refine (HT.out _ (hP2.same ((Below.refl _ _).alloc (Nat.le_refl _) _))).mono ?_; rintro e w3 ⟨⟨ad1, k1, ad2, k2, rfl, s1, s2⟩, hb3⟩; have hb3' := below_call hb3) | (go_at_call 72; refine (HW.out _ ad1 k1 ad2 k2 ((hP2.same hb3').same (((Below.refl _ _).alloc (Nat.le_refl _) _).alloc (by simp) _)) (RootsAt.below (fun h0 => let ⟨g, e, _, r⟩ := slots_lie s1 (slot_wf hP.view1.wf) h0; ⟨g, 0, e, r⟩) (((Below.refl _ _).alloc (Nat.le_refl _) _).alloc (by simp) _)) (RootsAt.below (fun h0 => let ⟨g, e, _, r⟩ := slots_lie s2 (slot_wf hP.view2.wf) h0; ⟨g, 0, e, r⟩) (((Below.refl _ _).alloc (Nat.le_refl _) _).alloc (by simp) _))).mono ?_; rintro e w5 ⟨rfl, hb5⟩))
                go_ret
                exact ⟨by rw [H.out]; rfl, hBL.trans (((hB2.trans ((hb3'.mono hB2.size).trans (((Below.refl _ w3).alloc (by have := hB2.size; have := hb3'.size; omega) _).alloc (by have := hB2.size; have := hb3'.size; simp; omega) _))).trans (hb5.mono (by have := hB2.size; have := hb3'.size; simp; omega))).mono hbig)⟩
            · have e2 : (formAt W (pl2 x) == 2) = false := by simpa using f2
              have H : Hid (X = (P.drop (k + 1)).all (weakOne W V P)) := by have := hck.out; rw [hdr, List.all_cons, show weakOne W V P (x, y) = true by unfold weakOne; rw [if_neg f2], Bool.true_and] at this; exact this
              clear hck hdr f2 hsl
              go_wp2_with (go_at_call 70; refine (HT.out _ (hP2.same ((Below.refl _ _).alloc (Nat.le_refl _) _))).mono ?_; rintro e w3 ⟨⟨ad1, k1, ad2, k2, rfl, s1, s2⟩, hb3⟩; have hb3' := below_call hb3)
              go_roundw
              case rel => exact ⟨k + 1, by first | rfl | simp, by omega, H, (hB2.trans ((hb3'.mono hB2.size).trans (((Below.refl _ w3).alloc (by have := hB2.size; have := hb3'.size; omega) _).alloc (by have := hB2.size; have := hb3'.size; simp; omega) _)))⟩
              case measure => simp [intOf]; omega
          · have H : Hid (X = true) := by have := hck.out; rw [List.drop_eq_nil_of_le (by omega)] at this; exact this
            clear hck
            go_wp2_with fail
            go_ret
            exact ⟨by rw [H.out]; rfl, hBL.trans (hB2.mono hbig)⟩

end Go.Proofs.Ytpapaadclkdbkaa
