/- Package move: (*mover).anew, moveFrom. -/
import Derived.Test.YtfmapgbkajlfkaaMoveMv
namespace Go.Proofs.Ytfmapgbkajlfkaa
open Go.RowKit
open Go.Maps (Keyed keyOf_int_mk)

/-- What anew leans on: its mover's cells, its map, its view. -/
structure AnewI (W : List Int) (ps : List Nat) (b cap bm mm Q : Nat) (w : World) : Prop where
  q0 : w.cell? ⟨Q, 0, none⟩ = some (sl b W.length cap)
  q1 : w.cell? ⟨Q, 1, none⟩ = some (.map (some bm))
  q2 : w.cell? ⟨Q, 2, none⟩ = some (.map (some mm))
  map : IntMap w mm ps.length (refAt W 2 ps)
  view : IsView w b cap bm W
theorem AnewI.below {W : List Int} {ps : List Nat} {b cap bm mm Q : Nat} {w w' : World} (h : AnewI W ps b cap bm mm Q w) (hb : Below w.heap.size w w') : AnewI W ps b cap bm mm Q w' :=
  ⟨through hb h.q0 (World.block_lt_of_cell? _ _ h.q0), through hb h.q1 (World.block_lt_of_cell? _ _ h.q1), through hb h.q2 (World.block_lt_of_cell? _ _ h.q2), h.map.below hb h.map.lt, h.view.same hb⟩

set_option maxHeartbeats 1000000 in
theorem anew_any (W : List Int) (ps : List Nat) (b cap bm mm Q : Nat) (o : Int) (w : World) (h : AnewI W ps b cap bm mm Q w) (hp : ∀ p ∈ ps, p ∈ places W 2) (hl : W.length ≤ 2000) (ho : (Lit.int .i64 o).wf = true) :
    Calls Try.prog 20 #[.pointer (some ⟨Q, 0, none⟩), .int .i64 o] w fun e w' => e = .returned (.int .i64 (turnP W ps o)) ∧ Below w.heap.size w w' := by
  have ht := turn_refAt hp hl o
  obtain ⟨n, D, hD, hDn, hDh, hDa⟩ := h.map
  have hho := hDh o
  obtain ⟨x0, x1, x2⟩ := And.intro h.q0 (And.intro h.q1 h.q2)
  have y0 := World.block_lt_of_cell? _ _ x0
  cases hf : refAt W 2 ps o with
  | some x =>
    have hax := hDa o x hf
    rw [hf] at ht hho
    simp only [Option.isSome_some] at hho
    have HT : Hid (turnP W ps o = x) := ht
    clear ht hDh hDa hf
    go_enter Try.func20, Try.ntmps20
    go_wp2_with (at_lookup; refine wpList_lookup_own_ok_int _ rfl _ _ 38 rfl 3 3 .i64 key3 ty59 ty3 (zero3 _) mm n D rfl hD _ _ rfl (keyOf_int_mk ty3 ho) ?_; intro c hat hwc; have hcs : c = x := (by rw [hax] at hat; simp at hat; exact hat.symm); subst hcs; clear hat hwc)
    go_ret
    exact ⟨by rw [HT.out]; rfl, Below.refl _ _⟩
  | none =>
    rw [hf] at ht hho
    simp only [Option.isSome_none] at hho
    cases hT : thingB W o with
    | true =>
      have HT : Hid (turnP W ps o = 0) := by rw [hT] at ht; exact ht
      clear ht hDh hDa hf
      go_enter Try.func20, Try.ntmps20
      go_wp2_with (first | (at_lookup; refine wpList_lookup_own_ok_int _ rfl _ _ 38 rfl 3 3 .i64 key3 ty59 ty3 (zero3 _) mm n D rfl hD _ _ rfl (keyOf_int_mk ty3 ho) ?_; intro c hat hwc; clear hat hwc) | (go_at_call 40; refine (has_any W b cap bm _ _ h.view).mono ?_; rintro e w1 ⟨rfl, hb1⟩))
      go_ret
      exact ⟨by rw [HT.out]; rfl, hb1⟩
    | false =>
      have HT : Hid (turnP W ps o = o) := by rw [hT] at ht; exact ht
      clear ht hDh hDa hf
      go_enter Try.func20, Try.ntmps20
      go_wp2_with (first | (at_lookup; refine wpList_lookup_own_ok_int _ rfl _ _ 38 rfl 3 3 .i64 key3 ty59 ty3 (zero3 _) mm n D rfl hD _ _ rfl (keyOf_int_mk ty3 ho) ?_; intro c hat hwc; clear hat hwc) | (go_at_call 40; refine (has_any W b cap bm _ _ h.view).mono ?_; rintro e w1 ⟨rfl, hb1⟩))
      go_ret
      exact ⟨by rw [HT.out]; rfl, hb1⟩

theorem anew_enters (args : Array Value) (w : World) : Sem.run Try.prog (callFunc 20 args) w = .ok (.enter 20 args) w := by kernel_rfl
theorem anew_turns (W : List Int) (ps : List Nat) (b cap bm mm Q : Nat) (hp : ∀ p ∈ ps, p ∈ places W 2) (hl : W.length ≤ 2000) :
    TurnsB 20 #[.pointer (some ⟨Q, 0, none⟩)] #[] (turnP W ps) (AnewI W ps b cap bm mm Q) :=
  ⟨anew_enters, fun _ _ h hb => h.below hb, fun o w h ho => anew_any W ps b cap bm mm Q o w h hp hl ho⟩

/-- move, whatever refs are. -/
theorem mmove_any (W refs : List Int) (b cap bm mm Q L N : Nat) (f : List Int) (vf : Value) (rad : Option Addr) (rc : Nat) (w : World) (hC : Mover W b cap bm mm Q L N f vf w) (hF : Fit W f)
    (hr : 0 < refs.length → ∃ rb ro, rad = some ⟨rb, ro, none⟩ ∧ Row w rb ro refs ∧ (rb < L ∨ N ≤ rb) ∧ vf.ownBlock ≠ some rb) (hu : unfit W 2 = none) (h2 : 2 ≤ W.length) (hl : W.length ≤ 2000) (hrl : refs.length ≤ 100000) :
    Calls Try.prog 35 #[.pointer (some ⟨Q, 0, none⟩), .slice rad refs.length rc] w (MoveAns W b cap bm mm Q L N (come W f refs) w) := by
  by_cases h0 : 0 < refs.length
  · obtain ⟨rb, ro, rfl, hrow, h1, h3⟩ := hr h0
    exact mmove_some W refs b cap bm mm Q L N f vf rb ro rc w hC hF hrow h0 h1 h3 hu h2 hl hrl
  · have e0 : refs = [] := List.eq_nil_of_length_eq_zero (by omega)
    subst e0
    exact mmove_none W b cap bm mm Q L N f vf rad rc w hC hF

/-- What moveFrom does. -/
def FromAns (W roots : List Int) (b cap bm mm Q L N : Nat) (w : World) (e : Ending) (w' : World) : Prop :=
  e = .returned (.tuple #[]) ∧ (∃ f vf, Bfs W roots f ∧ Fit W f ∧ Mover W b cap bm mm Q L N f vf w') ∧ Below L w w'

set_option maxHeartbeats 4000000 in
theorem moveFrom_any (W roots : List Int) (b cap bm mm Q L N : Nat) (rad : Option Addr) (rc : Nat) (w : World) (hC0 : Mover W b cap bm mm Q L N [] (.slice none 0 0) w)
    (hroots : 0 < roots.length → ∃ rb ro, rad = some ⟨rb, ro, none⟩ ∧ Row w rb ro roots ∧ rb < L) (hu : unfit W 2 = none) (h2 : 2 ≤ W.length) (hl : W.length ≤ 2000) (hrl : roots.length ≤ 5000) :
    Calls Try.prog 18 #[.pointer (some ⟨Q, 0, none⟩), .slice rad roots.length rc] w (FromAns W roots b cap bm mm Q L N w) := by
  have HM : Hid (Calls Try.prog 35 #[.pointer (some ⟨Q, 0, none⟩), .slice rad roots.length rc] w (MoveAns W b cap bm mm Q L N (come W [] roots) w)) :=
    mmove_any W roots b cap bm mm Q L N [] (.slice none 0 0) rad rc w hC0 ⟨List.nodup_nil, fun x h => by cases h⟩ (fun h0 => by obtain ⟨rb, ro, e, hr, hlt⟩ := hroots h0; exact ⟨rb, ro, e, hr, Or.inl hlt, by simp [Value.ownBlock]⟩) hu h2 hl (by omega)
  clear hroots hC0
  go_enter Try.func18, Try.ntmps18
  go_wp2_with (go_at_call 35; refine HM.out.mono ?_; rintro e w1 ⟨rfl, ⟨vf1, hC1⟩, hF1, hB1⟩)
  go_loopw [4] (fun s wr => ∃ (n : Nat) (f : List Int) (vf : Value), s = .int .i64 n ∧ Way W roots f n ∧ Hid (Fit W f) ∧ Hid (Mover W b cap bm mm Q L N f vf wr) ∧ Below L w wr) (fun s _ => W.length + 1 - (intOf s).toNat)
  case atStart => exact ⟨0, _, vf1, rfl, .start, hF1, hC1, hB1⟩
  case round =>
    clear hC1 hB1 hF1 HM
    obtain ⟨n, f, vf, rfl, hA, HF, HC, hB⟩ := hrel
    have hfl := hA.along.short
    have hnl := hA.along.le
    have hC : MoverP W b cap bm mm Q L N f.length (refAt W 2 (f.map pl2)) f vf (2 + roomSum W (f.map pl2)) wr := HC.out
    have hsz := hC.size
    have c3 := hC.q3
    have hn3 : Q < wr.heap.size := by have := hC.nq; omega
    obtain ⟨ad, cf, hvf⟩ := own_form hC.own
    subst hvf
    by_cases hlt : n < f.length
    · obtain ⟨p, hp, hmem, _, hpp⟩ := thing_ref (hA.along.all _ (wd_mem hlt)).thing
      have ho := ref_thing hl hmem
      obtain ⟨g, cg, hsh, hge, hown0⟩ := own_shape hC.own (fun e => by injection e with _ h0 _; omega)
      simp only [Value.slice.injEq, true_and] at hsh
      obtain ⟨rfl, rfl⟩ := hsh
      have hgl := own_lt hown0
      have hcn := own_cell hown0 hlt
      rw [hp] at hcn
      have HA : Hid (Way W roots (come W f (leadsAt W p)) (n + 1)) := by
        have := hA.next hlt
        rwa [hp, pl2_two] at this
      have c0 := hC.q0
      have c1 := hC.q1
      have hLm := hC.lm
      have hNm := hC.nm
      have hii : (n : Int) < (f.length : Int) := by omega
      have hsl : (slotsOf W p).length ≤ 2000 := by unfold slotsOf; rw [List.length_take, List.length_drop]; omega
      have hview := hC.view
      clear hA hp hC hpp
      go_upto_region 4 with fail
      go_region_with (first | (go_at_call 37; refine (vlook_any W b cap bm p _ hview.drew hu hl ho hmem).mono ?_; rintro e w2 ⟨⟨v2, rfl, hs2⟩, hb2⟩) | (go_at_call 36; refine (leads_any W p _ v2 _ hs2 hsl).mono ?_; rintro e w3 ⟨⟨g3, c3', rfl, hg3, hown3⟩, hb3⟩) | (go_at_call 35; have hb13 : Below wr.heap.size wr w3 := ((Below.refl _ _).drew.trans hb2).trans (hb3.mono ((Below.refl wr.heap.size wr).drew.trans hb2).size); have hlw := leads_length (W := W) (p := p); refine (mmove_some W (leadsAt W p) b cap bm mm Q L N f (sl g f.length cf) g3 0 c3' _ (HC.out.below hb13) HF.out ⟨own_lt hown3, fun k hk => by rw [Nat.zero_add]; exact own_cell hown3 hk, leads_wf hview.wf⟩ leads_pos (Or.inr (by have := ((Below.refl wr.heap.size wr).drew.trans hb2).size; omega)) (fun e => by simp [Value.ownBlock] at e; have := ((Below.refl wr.heap.size wr).drew.trans hb2).size; omega) hu h2 hl (by omega)).mono ?_; rintro e w4 ⟨rfl, hC4, hF4, hB4⟩))
      all_goals
        obtain ⟨vf', hC'⟩ := hC4
        go_wp2_with fail
        go_roundw
        case rel => exact ⟨n + 1, _, vf', by first | rfl | simp, HA.out, hF4, hC', hB.trans ((hb13.mono (by omega)).trans hB4)⟩
        case measure => simp [intOf]; omega
    · have HE : Hid (Bfs W roots f) := hA.ends (by omega)
      clear hA hC
      go_wp2_with fail
      go_end0
      exact ⟨rfl, ⟨f, _, HE.out, HF.out, HC.out⟩, hB⟩
end Go.Proofs.Ytfmapgbkajlfkaa
