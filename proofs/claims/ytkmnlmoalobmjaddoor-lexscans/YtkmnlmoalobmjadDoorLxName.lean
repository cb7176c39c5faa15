/- package lex: which kind of token a name is. -/
import Derived.Test.YtkmnlmoalobmjadDoorLxPast
namespace Go.Proofs.YtkmnlmoalobmjadDoor
open Go.RowKit

/-- The words, as bytes. -/
def wordsU : List (List UInt8) := [[99, 108, 97, 115, 115], [116, 111], [115, 108, 111, 116], [109, 97, 105, 110], [118, 97, 114], [105, 102], [101, 108, 115, 101], [119, 104, 105, 108, 101], [114, 101, 116, 117, 114, 110], [112, 114, 105, 110, 116], [102, 111, 114, 107], [119, 97, 105, 116], [115, 105, 103, 110, 97, 108], [115, 119, 97, 112], [110, 101, 119], [103, 97, 116, 101], [110, 105, 108], [115, 101, 108, 102]]
theorem words_map : wordsL = wordsU.map fun u => u.map fun x => (x.toNat : Int) := by decide
theorem toNat_inj : ∀ {u v : List UInt8}, (u.map fun x => (x.toNat : Int)) = (v.map fun x => (x.toNat : Int)) → u = v
  | [], [], _ => rfl
  | a :: u, b :: v, h => by
    simp only [List.map_cons, List.cons.injEq] at h
    rw [toNat_inj h.2, UInt8.toNat_inj.1 (show a.toNat = b.toNat by omega)]
theorem word_u (s : ByteArray) : wordB (nums s) = wordsU.any fun u => s.toList == u := by
  rw [Bool.eq_iff_iff, List.any_eq_true]
  unfold wordB
  rw [List.contains_iff_mem, words_map, List.mem_map]
  constructor
  · rintro ⟨u, hu, e⟩
    refine ⟨u, hu, ?_⟩
    rw [ByteArray.toList_eq, beq_iff_eq]
    exact (toNat_inj e).symm
  · rintro ⟨u, hu, e⟩
    rw [ByteArray.toList_eq, beq_iff_eq] at e
    exact ⟨u, hu, by rw [← e]; rfl⟩

set_option maxHeartbeats 4000000 in
theorem nameKind_any (s : ByteArray) (k : Int) (w : World) (HK : Hid (k = if wordB (nums s) = true then 3 else 1)) :
    Calls Tryd.prog 19 #[.string s] w fun e w' => e = .returned (.int .i64 k) ∧ w' = w := by
  go_enter Tryd.func19, Tryd.ntmps19
  go_wp2
  all_goals first
    | (exfalso; simp_all; done)
    | (go_ret; refine ⟨?_, rfl⟩; rw [HK.out, word_u]; simp [wordsU, *]; done)
end Go.Proofs.YtkmnlmoalobmjadDoor
