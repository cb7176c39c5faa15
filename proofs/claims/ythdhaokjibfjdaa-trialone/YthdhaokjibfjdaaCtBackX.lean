/- Package count: giveBack, tallyOf. -/
import Derived.Test.YthdhaokjibfjdaaGk
namespace Go.Proofs.Ythdhaokjibfjdaa
open Go.RowKit
open Go.Maps (Keyed keyOf_int_mk)

set_option maxHeartbeats 8000000 in
set_option maxRecDepth 20000 in
theorem giveBack_any (W R : List Int) (b cap bm mm L r : Nat) (w : World) (hv : IsView w b cap bm W) (hb : b < L) (hbm : bm < L) (hm : L ≤ mm) (hu : unfit W 2 = none) (hl : W.length ≤ 2000) (hT : Tal w mm (r + 300000) (rootC W R)) (hr7 : r ≤ 500000) :
    Calls Try.prog 23 #[tallyV b W.length cap bm mm] w fun e w' => (e = .returned (.tuple #[]) ∧ ∃ c, Tal w' mm r c ∧ ((places W 2).filter fun p : Nat => decide (c (2 * (p : Int)) = 0)) = goneP W R) ∧ KeptC (fun k => k < w.heap.size ∧ k ≠ mm) w w' ∧ Below L w w' := by
  have hml := hT.lt
  obtain ⟨M, hM1, hM2⟩ : ∃ M : Nat, 2001 ≤ M ∧ M ≤ 2900 := ⟨2001, Nat.le_refl _, by decide⟩
  obtain ⟨T, hTm, hTc, hTr⟩ := hT
  obtain ⟨t0, t1, t2, _⟩ := box3 (Below.refl (w.alloc (.cells #[sl b W.length cap, .map (some bm), .map (some mm)] 55)).heap.size (w.alloc (.cells #[sl b W.length cap, .map (some bm), .map (some mm)] 55)))
  have hBa : Below w.heap.size w (w.alloc (.cells #[sl b W.length cap, .map (some bm), .map (some mm)] 55)) := (Below.refl _ _).alloc (Nat.le_refl _) _
  have HA : Hid (Calls Try.prog 24 #[tallyV b W.length cap bm mm, .func (.func 50) #[] #[]] (w.alloc (.cells #[sl b W.length cap, .map (some bm), .map (some mm)] 55)) fun e w' => OwnedAny (w.alloc (.cells #[sl b W.length cap, .map (some bm), .map (some mm)] 55)).heap.size (heldL W R) e w' ∧ Below (w.alloc (.cells #[sl b W.length cap, .map (some bm), .map (some mm)] 55)).heap.size (w.alloc (.cells #[sl b W.length cap, .map (some bm), .map (some mm)] 55)) w') :=
    ctall_any asksMore W b cap bm mm T (rootC W R) _ (hv.alloc _) hu hl (hTm.blk (hBa.block mm hml))
  have hal := held_along (W := W) (R := R)
  have hsh := hal.short
  have HG : Hid (Along W R (heldL W R) 0) := hal
  have HO : Hid (HeldOk (rootC W R, heldL W R)) := heldOk_first
  have HTm : Hid (CMap w mm T (rootC W R)) := hTm
  have HTc : Hid (∀ o, -(T : Int) ≤ rootC W R o ∧ rootC W R o ≤ (T : Int)) := hTc
  clear hal hTm hTc
  generalize heldL W R = hs at *
  go_enter Try.func23, Try.ntmps23
  go_wp2_with (go_at_call 24; refine HA.out.mono ?_; rintro e w1 ⟨⟨had, hc, rfl, hown1⟩, hb1⟩)
  have hb01 := below_call hb1
  obtain ⟨x0, x1, x2, hz1⟩ := box3 hb1
  have hb02 := hb01.alloc hb01.size (.cells #[.slice had hs.length hc] 22)
  have hz2 : (w1.alloc (.cells #[.slice had hs.length hc] 22)).heap.size = w1.heap.size + 1 := by simp
  have hown1' : w1.ownsRow (w.heap.size + 1) 3 1 (.slice had hs.length hc) hs.length (vals hs) := by simpa using hown1
  have hI0 : HeldI b W.length cap bm mm L w.heap.size w1.heap.size (w.heap.size + 1) (r + 100 * (M - 0)) (rootC W R, hs) (fun k => k < w.heap.size ∧ k ≠ mm) (w1.alloc (.cells #[.slice had hs.length hc] 22)) := by
    have hbb : Below w1.heap.size w1 (w1.alloc (.cells #[.slice had hs.length hc] 22)) := (Below.refl _ _).alloc (Nat.le_refl _) _
    have hs0 := hb01.size
    refine ⟨.slice had hs.length hc, ⟨through hbb x0 hz1, through hbb x1 hz1, through hbb x2 hz1, ⟨T, HTm.out.blk (hb02.block mm hml), HTc.out, by omega⟩, ⟨by omega, hm, by omega⟩, fun k hk => ⟨hk.2, by omega⟩⟩, ?_, ?_, own_same hown1' fun g hg => hbb.block g (hown1'.lt g hg).2, by simp only; omega, ⟨by omega, by omega, by omega, by omega, by omega, by omega, by omega⟩, fun e => by have := (hown1'.lt _ e).2; omega, fun k hk => ⟨by omega, fun e => by have := (hown1'.lt _ e).1; omega⟩⟩
    · rw [cell_at2 (by simp)]; rfl
    · rw [frozen_at2 (by simp)]
  have hK0 : KeptC (fun k => k < w.heap.size ∧ k ≠ mm) w (w1.alloc (.cells #[.slice had hs.length hc] 22)) := fun k hk => hb02.block k hk.1
  have hB0 : Below L w (w1.alloc (.cells #[.slice had hs.length hc] 22)) := hb02.mono (by omega)
  have hv0 := hv.same hb02
  clear hb1 x0 x1 x2 hown1 hown1' HTm HTc HA t0 t1 t2 hBa
  go_wp2_with fail
  go_loopw [4] (fun s4 wr => ∃ (n : Nat) (c : Int → Int) (f : List Int), s4 = .int .i64 n ∧ Hid (Along W R f n) ∧ Hid (HeldOk (c, f)) ∧ Hid (HeldI b W.length cap bm mm L w.heap.size w1.heap.size (w.heap.size + 1) (r + 100 * (M - n)) (c, f) (fun k => k < w.heap.size ∧ k ≠ mm) wr) ∧ KeptC (fun k => k < w.heap.size ∧ k ≠ mm) w wr ∧ Below L w wr ∧ IsView wr b cap bm W) (fun s4 _ => W.length + 1 - (intOf s4).toNat)
  case atStart => exact ⟨0, _, hs, rfl, HG.out, HO.out, hI0, hK0, hB0, hv0⟩
  case round =>
    clear hI0 hK0 hB0 hv0 HG HO hv hb01 hb02
    have HD := give_does b W.length cap bm mm L w.heap.size w1.heap.size (w.heap.size + 1)
    obtain ⟨n, c, f, rfl, HA, HO, HI, hK, hB, hv⟩ := hrel
    have hfl := HA.out.short
    have hnl := HA.out.le
    obtain ⟨vf, hP⟩ := HI.out
    have hP : HeldP b W.length cap bm mm L w.heap.size w1.heap.size (w.heap.size + 1) (r + 100 * (M - n)) c f vf (fun k => k < w.heap.size ∧ k ≠ mm) wr := hP
    have c0 := hP.tal.b0
    have c1 := hP.tal.b1
    have c2 := hP.tal.b2
    have h0 := hP.h0
    have hlH := hP.hlt
    have hlB := hP.tal.lt
    have hls := hP.tal.low
    obtain ⟨ad, cf, hvf⟩ := own_form hP.own
    subst hvf
    by_cases hlt : n < f.length
    · obtain ⟨p, hp, hmem, _, _⟩ := thing_ref (HA.out.all _ (wd_mem hlt)).thing
      obtain ⟨g, cg, hsh', hge, hown0⟩ := own_shape hP.own (fun e => by injection e with _ h1 _; omega)
      simp only [Value.slice.injEq, true_and] at hsh'
      obtain ⟨rfl, rfl⟩ := hsh'
      have hgl := own_lt hown0
      have hcn := own_cell hown0 hlt
      rw [hp] at hcn
      have HA' : Hid (Along W R (come W f (leadsAt W p)) (n + 1)) := by
        have := HA.out.next hlt
        rwa [hp, show (2 * (p : Int) / 2).toNat = p by omega] at this
      have hgc := give_come (W := W) (leadsAt W p) (c, f) HO.out
      have HO' : Hid (HeldOk (((thingsOf W (leadsAt W p)).foldl giveH (c, f)).1, come W f (leadsAt W p))) := by
        have h2 := hgc.2
        rw [← hgc.1]; exact h2
      have HS : Hid ((thingsOf W (leadsAt W p)).foldl giveH (c, f) = (((thingsOf W (leadsAt W p)).foldl giveH (c, f)).1, come W f (leadsAt W p))) := by rw [← hgc.1]; exact rfl
      have hii : (n : Int) < (f.length : Int) := by omega
      have hw1 := wrap_id (x := (n : Int) + 1) (by omega) (by omega)
      have hll := leads_few hu hmem
      have HIe : Hid (HeldI b W.length cap bm mm L w.heap.size w1.heap.size (w.heap.size + 1) (r + 100 * (M - (n + 1)) + (leadsAt W p).length) (c, f) (fun k => k < w.heap.size ∧ k ≠ mm) wr) := HD.less HI.out (by omega)
      clear hgc HI HA HO hP hp
      go_upto_region 6 with fail
      go_region_with (first | (go_at_call 52; refine (ctleads_any W b cap bm mm p _ (by first | exact hv | exact hv.drew) hu hl hmem).mono ?_; rintro e w3 ⟨⟨g3, c3, rfl, hg3, hown3⟩, hb3⟩; have hb13 : Below wr.heap.size wr w3 := (Below.refl wr.heap.size wr).drew.trans hb3; have y0 := through hb13 c0 hlB; have y1 := through hb13 c1 hlB; have y2 := through hb13 c2 hlB) | (go_at_call 47; refine (cteach_some HD W (leadsAt W p) b cap bm mm g3 0 c3 _ (c, f) (fun k => (k < w.heap.size ∧ k ≠ mm) ∨ k = g3) _ (hv.same hb13) hb hbm (HD.beside HIe.out hb13 (by simpa using hg3) (own_lt hown3)) (Or.inr rfl) ⟨own_lt hown3, fun k hk => by rw [Nat.zero_add]; exact own_cell hown3 hk, leads_wf hv.wf⟩ (by omega)).mono ?_; rw [HS.out]; rintro e w4 ⟨rfl, hI4, hK4, hB4⟩))
      all_goals
        go_wp2_with fail
        go_roundw
        case rel => exact ⟨n + 1, _, _, by first | rfl | simp, HA'.out, HO'.out, HD.drop hI4, fun k hk => (hK4 k (Or.inl hk)).trans ((hb13.block k (HD.out HIe.out hk)).trans (hK k hk)), hB.trans ((hb13.mono hls).trans hB4), ctview_low hv ((hb13.mono hls).trans hB4) hb hbm⟩
        case measure => simp [intOf]; omega
    · have hd := HA.out.done (by omega)
      have HE : Hid (((places W 2).filter fun p : Nat => decide (c (2 * (p : Int)) = 0)) = goneP W R) := held_gone HO.out hd
      have hii : ¬ (n : Int) < (f.length : Int) := by omega
      obtain ⟨T9, t1, t2, t3⟩ := hP.tal.map
      clear hd HI HA HO
      go_wp2_with fail
      go_end0
      exact ⟨⟨rfl, c, ⟨T9, t1, t2, by omega⟩, HE.out⟩, hK, hB⟩
end Go.Proofs.Ythdhaokjibfjdaa
