/- The walk of awake; the walks of the laws, first part. -/
import Derived.Test.YtfkccmkggggpbaaRcV
namespace Go.Proofs.Ytfkccmkggggpbaa
set_option linter.unusedVariables false
open Go.ChangeShapes Go.WideShapes Go.ChangeAt Go.RowKit

def awR : List ValV := [⟨0, 0, { data := #[] }⟩, ⟨1, 1, .empty⟩, ⟨2, -2, .empty⟩, ⟨3, 0, { data := #[97, 98] }⟩]
theorem aw_put : putG awR = (0, [4, 0, 1, 1, 2, 255, 255, 255, 255, 255, 255, 255, 254, 3, 2, 97, 98]) := by decide +kernel
theorem aw_ok : ∀ a ∈ awR, OkV a := by
  intro a ha
  simp only [awR, List.mem_cons, List.not_mem_nil, or_false] at ha
  rcases ha with rfl | rfl | rfl | rfl <;> exact ⟨⟨by decide, by decide⟩, by decide⟩
theorem aw_get1 : getG [1, 4] = (2, []) := by kernel_rfl
theorem aw_get2 : getG [1] = (3, []) := by kernel_rfl
theorem aw_get3 : getG [33] = (4, []) := by kernel_rfl
theorem aw_nil : sizeR [] = 1 := by decide
theorem aw_lit (w : World) : RowAt (w.alloc (.cells #[.int .i64 0, .int .i64 0, .string { data := #[] }, .int .i64 1, .int .i64 1, .string .empty, .int .i64 2, .int .i64 (-2), .string .empty, .int .i64 3, .int .i64 0, .string { data := #[97, 98] }] 26)) (w.alloc (.cells #[.int .i64 0, .int .i64 0, .string { data := #[] }, .int .i64 1, .int .i64 1, .string .empty, .int .i64 2, .int .i64 (-2), .string .empty, .int .i64 3, .int .i64 0, .string { data := #[97, 98] }] 26)).heap.size (some ⟨w.heap.size, 0, none⟩) 4 4 awR :=
  sl_lit w _ 26 rfl valCells_len rfl (by unfold maxLen; omega)
theorem bl {w w' : World} (h : Below w.heap.size w w') : Below w.heap.size w w' := h
set_option maxHeartbeats 1000000 in
theorem awake_c (w : World) : Calls Try.prog 8 #[] w fun e w' => e = .returned (.bool true) ∧ Below w.heap.size w w' := by
  have Q1 := hide (fun W => bool_c true W)
  have Q2 := hide (fun W => num_c (-2) W)
  have Q3 := hide (fun W => str_c { data := #[97, 98] } W)
  have Q4 := hide (fun W => putR_c _ 4 4 awR _ (aw_lit W) (by omega) aw_ok)
  rw [aw_put] at Q4
  have Q5 := hide (fun W => getR_c { data := #[1, 4] } W (by decide))
  have Q6 := hide (fun W => getR_c { data := #[1] } W (by decide))
  have Q7 := hide (fun W => getR_c { data := #[33] } W (by decide))
  rw [show getG (ByteArray.mk #[1, 4]).data.toList = (2, []) from aw_get1] at Q5
  rw [show getG (ByteArray.mk #[1]).data.toList = (3, []) from aw_get2] at Q6
  rw [show getG (ByteArray.mk #[33]).data.toList = (4, []) from aw_get3] at Q7
  have Q8 := hide (fun W => sizeR_c none 0 0 [] W (SlAt.empty _ _ _ _) (by omega) (by simp))
  rw [aw_nil] at Q8
  go_enter Try.func8, Try.ntmps8
  go_wp2_with fail
  refine (Q1.out _).mono ?_
  rintro e w1 ⟨rfl, hb⟩
  have HB1 := hide hb
  clear hb
  unfold valAgg
  go_wp2_with fail
  refine (Q2.out _).mono ?_
  rintro e w2 ⟨rfl, hb⟩
  have HB2 := hide (Bel.then HB1.out hb)
  clear hb HB1
  unfold valAgg
  go_wp2_with fail
  refine (Q3.out _).mono ?_
  rintro e w3 ⟨rfl, hb⟩
  have HB3 := hide (Bel.then HB2.out hb)
  clear hb HB2
  unfold valAgg
  go_wp2_with fail
  refine (Q4.out _).mono ?_
  rintro e w4 ⟨rfl, hb⟩
  have HB4 := hide (Bel.then (Bel.alloc HB3.out _) hb)
  clear hb HB3
  unfold strL
  go_wp2_with fail
  refine (Q5.out _).mono ?_
  rintro e w5 ⟨A5, c5, rfl, _, hb⟩
  have HB5 := hide (Bel.then HB4.out hb)
  clear hb HB4
  go_wp2_with fail
  refine (Q6.out _).mono ?_
  rintro e w6 ⟨A6, c6, rfl, _, hb⟩
  have HB6 := hide (Bel.then HB5.out hb)
  clear hb HB5
  go_wp2_with fail
  refine (Q7.out _).mono ?_
  rintro e w7 ⟨A7, c7, rfl, _, hb⟩
  have HB7 := hide (Bel.then HB6.out hb)
  clear hb HB6
  go_wp2_with fail
  refine (Q8.out _).mono ?_
  rintro e w8 ⟨rfl, hb⟩
  have HB8 := hide (Bel.then HB7.out hb)
  clear hb HB7
  go_wp2_with fail
  go_ret
  exact ⟨rfl, HB8.out⟩
end Go.Proofs.Ytfkccmkggggpbaa
