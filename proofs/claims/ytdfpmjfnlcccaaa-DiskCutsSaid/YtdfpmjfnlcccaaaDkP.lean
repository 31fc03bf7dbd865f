/- The contract of the statements' own examples. -/
import Derived.Test.YtdfpmjfnlcccaaaDkO
namespace Go.Proofs.Ytdfpmjfnlcccaaa
set_option linter.unusedVariables false
open Go.ChangeShapes Go.WideShapes Go.ChangeAt Go.RowKit

theorem repS_list (N : Nat) (c : UInt8) : (repS N c).data.toList = List.replicate N c := by simp [repS]
theorem zeroS_rep : zeroS = repS 128 0 := rfl
theorem exP_list : exP.data.toList = List.replicate 128 97 ++ List.replicate 128 97 ++ List.replicate 128 0 ++ List.replicate 128 0 := by
  unfold exP
  rw [zeroS_rep, ByteArray.data_append, Array.toList_append, ByteArray.data_append, Array.toList_append, ByteArray.data_append, Array.toList_append, repS_list, repS_list]
theorem exP_at (i : Nat) (h : i < exP.size) : exP[i] = if i < 256 then 97 else 0 := by
  have e : exP.data.toList[i]? = some (exP[i]) := by
    rw [List.getElem?_eq_getElem (by rw [str_len]; exact h)]
    rfl
  rw [exP_list] at e
  have hs := exP_size
  by_cases h1 : i < 128
  · rw [List.getElem?_append_left (by simp only [List.length_append, List.length_replicate]; omega), List.getElem?_append_left (by simp only [List.length_append, List.length_replicate]; omega), List.getElem?_append_left (by simp only [List.length_replicate]; omega), List.getElem?_replicate, if_pos h1] at e
    injection e with e
    rw [if_pos (by omega), e]
  · by_cases h2 : i < 256
    · rw [List.getElem?_append_left (by simp only [List.length_append, List.length_replicate]; omega), List.getElem?_append_left (by simp only [List.length_append, List.length_replicate]; omega), List.getElem?_append_right (by simp only [List.length_replicate]; omega), List.getElem?_replicate, if_pos (by simp only [List.length_replicate]; omega)] at e
      injection e with e
      rw [if_pos h2, e]
    · rw [if_neg h2]
      by_cases h3 : i < 384
      · rw [List.getElem?_append_left (by simp only [List.length_append, List.length_replicate]; omega), List.getElem?_append_right (by simp only [List.length_append, List.length_replicate]; omega), List.getElem?_replicate, if_pos (by simp only [List.length_append, List.length_replicate]; omega)] at e
        injection e with e
        rw [e]
      · rw [List.getElem?_append_right (by simp only [List.length_append, List.length_replicate]; omega), List.getElem?_replicate, if_pos (by simp only [List.length_append, List.length_replicate]; omega)] at e
        injection e with e
        rw [e]
set_option maxRecDepth 100000 in
set_option maxHeartbeats 2000000 in
theorem awake_c (w : World) : Calls Try.prog 9 #[] w fun e w' => e = .returned (.bool true) ∧ Below w.heap.size w w' := by
  have Q1 := hide (fun W => New_c 8 W)
  have Q2 := hide (fun A c W h => Arm_c A 8 c exD 2 W h (by omega))
  have Q3 := hide (fun W => page_c 97 W)
  have Q4 := hide (fun A c W h => WritePage_c A 8 c exA 4 (repS 512 97) W h (by omega) ⟨by decide, by decide⟩)
  have Q5 := hide (fun A c W h => Start_c A 8 c exW W h (by omega))
  have Q6 := hide (fun A c W h => ReadPage_c A 8 c exS 4 W h (by omega) (by
    intro s hs
    simp only [exS, List.mem_cons, List.not_mem_nil, or_false] at hs
    rcases hs with rfl | rfl | rfl | rfl | rfl | rfl | rfl | rfl <;> first | exact zeroS_size | exact repS_size _ _) ⟨by omega, by omega⟩)
  rw [ex_new] at Q1
  rw [ex_arm] at Q2
  rw [ex_write] at Q4
  rw [ex_start] at Q5
  rw [ex_read] at Q6
  have hs := exP_size
  have hi1 := fun h => (exP_at 255 h).trans (if_pos (by omega))
  have hi2 := fun h => (exP_at 256 h).trans (if_neg (by omega))
  have hL1 : exD.secs.length = 8 := by decide
  have hL2 : exA.secs.length = 8 := by decide
  have hL3 : exW.secs.length = 8 := by decide
  have hL4 : exS.secs.length = 8 := by decide
  have hl1 : exD.left = -1 := rfl
  have hl2 : exA.left = 2 := rfl
  have hl3 : exW.left = 0 := rfl
  have hl4 : exS.left = -1 := rfl
  have hd1 : exD.down = false := rfl
  have hd2 : exA.down = false := rfl
  have hd3 : exW.down = true := rfl
  have hd4 : exS.down = false := rfl
  generalize exP = p at *
  generalize repS 512 97 = pg at *
  generalize exD = D1 at *
  generalize exA = D2 at *
  generalize exW = D3 at *
  generalize exS = D4 at *
  obtain ⟨s1, l1, b1⟩ := D1
  obtain ⟨s2, l2, b2⟩ := D2
  obtain ⟨s3, l3, b3⟩ := D3
  obtain ⟨s4, l4, b4⟩ := D4
  simp only at *
  subst hl1 hl2 hl3 hl4 hd1 hd2 hd3 hd4
  have HL1 := hide hL1
  have HL2 := hide hL2
  have HL3 := hide hL3
  have HL4 := hide hL4
  clear hL1 hL2 hL3 hL4
  have hz1 : ((p.size : Int) == 512) = true := by rw [beq_iff_eq]; omega
  have hz2 : 255 < p.size := by omega
  have hz3 : 256 < p.size := by omega
  have hz4 : (255 : Int) < p.size := by omega
  have hz5 : (256 : Int) < p.size := by omega
  have h97 : ((97 : UInt8).toNat : Int) = 97 := rfl
  rw [h97] at Q3
  clear hs h97
  unfold diskAgg at *
  unfold GivesD at Q1 Q4
  unfold GivesF at Q2 Q5
  unfold GivesR at Q6
  go_enter Try.func9, Try.ntmps9
  go_wp2_with fail
  refine (Q1.out _).mono ?_
  rintro e w1 ⟨v1, rfl, ho, hb⟩
  obtain ⟨A1, c1, rfl, hS1⟩ := ho.sl
  rw [HL1.out] at hS1 ⊢
  have HB1 := hide hb
  have S1 := hide (hS1.kept (Bel.one w1 (.cells #[.slice A1 8 c1, .int .i64 (-1), .bool false] 25)))
  have X1 := hide (dbox_new w1 (.slice A1 8 c1) (-1) false)
  have B1 := hide (Bel.alloc hb (.cells #[.slice A1 8 c1, .int .i64 (-1), .bool false] 25))
  clear hb ho hS1 Q1
  go_upto_region 2 with (fail)
  have hg0 : w.heap.size ≤ w1.heap.size := HB1.out.size
  generalize w1.alloc (.cells #[.slice A1 8 c1, .int .i64 (-1), .bool false] 25) = u1 at *
  generalize w1.heap.size = g at *
  obtain ⟨c0, c1', c2, f0, f1, f2⟩ := X1.out.cells
  go_wp2_with fail
  refine (Q2.out _ _ _ S1.out).mono ?_
  rintro e w2 ⟨v2, rfl, ho, hb⟩
  obtain ⟨A2, c2', rfl, hS2⟩ := ho.sl
  rw [HL2.out] at hS2 ⊢
  have X2 := hide (X1.out.kept hb)
  have B2 := hide (Bel.then B1.out hb)
  have S2 := hide hS2
  clear hb ho hS2 Q2 S1 B1 X1 c0 c1' c2 f0 f1 f2
  go_wp2_with fail
  refine (Q3.out _).mono ?_
  rintro e w3 ⟨rfl, hb⟩
  have X3 := hide (X2.out.kept hb)
  have B3 := hide (Bel.then B2.out hb)
  have S3 := hide (S2.out.kept hb)
  clear hb Q3 X2 B2 S2
  go_wp2_with fail
  refine (Q4.out _ _ _ S3.out).mono ?_
  rintro e w4 ⟨v4, rfl, ho, hb⟩
  obtain ⟨A4, c4, rfl, hS4⟩ := ho.sl
  rw [HL3.out] at hS4 ⊢
  have X4 := hide (X3.out.kept hb)
  have B4 := hide (Bel.then B3.out hb)
  have S4 := hide hS4
  obtain ⟨c0, c1', c2, f0, f1, f2⟩ := X4.out.cells
  clear hb ho hS4 Q4 X3 B3 S3
  go_upto_region 3 with (fail)
  have X5 := hide (X4.out.set3 (.slice A4 8 c4) 0 true)
  have S5 := hide (sl_far3 S4.out X4.out (by intro s h; cases h) (.slice A4 8 c4) (by intro s h; cases h) 0 true)
  have B5 := hide (below_set3 B4.out hg0 (.slice A4 8 c4) (.int .i64 0) (.bool true))
  have hsz : (((w4.setCell ⟨g, 0, none⟩ (.slice A4 8 c4)).setCell ⟨g, 1, none⟩ (.int .i64 0)).setCell ⟨g, 2, none⟩ (.bool true)).heap.size = w4.heap.size := by simp
  have HSZ := hide hsz
  generalize ((w4.setCell ⟨g, 0, none⟩ (.slice A4 8 c4)).setCell ⟨g, 1, none⟩ (.int .i64 0)).setCell ⟨g, 2, none⟩ (.bool true) = w5 at *
  clear c0 c1' c2 f0 f1 f2 X4 B4 S4 hsz
  obtain ⟨c0, c1', c2, f0, f1, f2⟩ := X5.out.cells
  have S6 := hide (S5.out.more (Nat.le_of_eq HSZ.out.symm))
  clear S5
  go_wp2_with fail
  refine (Q5.out _ _ _ S6.out).mono ?_
  rintro e w7 ⟨v7, rfl, ho, hb⟩
  obtain ⟨A7, c7, rfl, hS7⟩ := ho.sl
  rw [HL4.out] at hS7 ⊢
  have B7 := hide (Bel.then B5.out hb)
  have S7 := hide hS7
  clear hb ho hS7 Q5 X5 B5 S6 c0 c1' c2 f0 f1 f2
  go_wp2_with fail
  refine (Q6.out _ _ _ S7.out).mono ?_
  rintro e w8 ⟨rfl, hb⟩
  have B8 := hide (Bel.then B7.out hb)
  clear hb Q6 B7 S7
  go_wp2_with fail
  go_ret
  exact ⟨ret_bool (by first | rfl | (simp; done)), B8.out⟩
end Go.Proofs.Ytdfpmjfnlcccaaa
