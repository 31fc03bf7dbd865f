/- The contract of scalar.Eval and Truth at the example's comparison. -/
import Derived.Test.YtlkeghfdpbfhbaaScH
namespace Go.Proofs.Ytlkeghfdpbfhbaa
set_option linter.unusedVariables false
open Go.ChangeShapes Go.WideShapes Go.ChangeAt Go.RowKit

abbrev eS : ByteArray := { data := #[] }
abbrev kidsCs : Array Value := #[.int .i64 2, .int .i64 0, .int .i64 0, .string eS, .int .i64 0, .int .i64 1, .string eS, .slice none 0 0, .slice none 0 0, .int .i64 0, .int .i64 1, .int .i64 2, .int .i64 1, .string ByteArray.empty, .int .i64 0, .int .i64 0, .string eS, .slice none 0 0, .slice none 0 0, .int .i64 0]
def gtAgg (kb : Nat) : Value := trmAgg 15 0 0 eS 0 0 eS (.slice (some ⟨kb, 0, none⟩) 2 2) (.slice none 0 0) 0
theorem hp_set0 {w : World} {g : Nat} {a b c d e f : Value} {t : TypeId} (h : Hp w g #[a, b, c, d, e, f] t) (x y z : Value) : Hp (((w.setCell ⟨g, 0, none⟩ x).setCell ⟨g, 1, none⟩ y).setCell ⟨g, 2, none⟩ z) g #[x, y, z, d, e, f] t := by
  unfold Hp at *
  simp [World.setCell, Array.getElem?_modify, h]
theorem hp_set3 {w : World} {g : Nat} {a b c d e f : Value} {t : TypeId} (h : Hp w g #[a, b, c, d, e, f] t) (x y z : Value) : Hp (((w.setCell ⟨g, 3, none⟩ x).setCell ⟨g, 4, none⟩ y).setCell ⟨g, 5, none⟩ z) g #[a, b, c, x, y, z] t := by
  unfold Hp at *
  simp [World.setCell, Array.getElem?_modify, h]
theorem below_set3 {B b o : Nat} {w w1 : World} (h : Below B w w1) (hb : B ≤ b) (x y z : Value) : Below B w (((w1.setCell ⟨b, o, none⟩ x).setCell ⟨b, o + 1, none⟩ y).setCell ⟨b, o + 2, none⟩ z) :=
  ((h.setCell (p := ⟨b, o, none⟩) hb x).setCell (p := ⟨b, o + 1, none⟩) hb y).setCell (p := ⟨b, o + 2, none⟩) hb z
set_option maxRecDepth 100000 in
set_option maxHeartbeats 4000000 in
theorem evalgt_c (kb eb eg : Nat) (w : World) (hk : Hp w kb kidsCs 32) (he : w.cell? ⟨eb, 0, none⟩ = some (.slice (some ⟨eg, 0, none⟩) 2 2)) (hr : RowV w w.heap.size (some ⟨eg, 0, none⟩) 2 2 [nullV, numV 2]) : Calls Try.prog 14 #[gtAgg kb, .slice (some ⟨eb, 0, none⟩) 1 1] w (GivesV w (boolV true)) := by
  obtain ⟨h1, h2, h3⟩ := trm_two w (trmCs 15 0 0 eS 0 0 eS (.slice (some ⟨kb, 0, none⟩) 2 2) (.slice none 0 0) 0)
  have H1 := hide h1
  have HX := hide h2
  have HB := hide h3
  have l0 := Lib.cell_of_heap h1 0
  have l7 := Lib.cell_of_heap h1 7
  have HK := hide (hk.kept2 h3 hk.lt)
  have HE := hide (kept h3 he)
  have HR := hide (hr.kept h3)
  clear h1 h2 h3 hk he hr
  have hmk : ∀ w, (Instr.makeSlice 22 (.int .i64 2) (.int .i64 2)).run Try.prog w = .ok (.slice (some ⟨w.heap.size, 0, none⟩) 2 2) (w.alloc (.cells #[.int .i64 0, .int .i64 0, .string eS, .int .i64 0, .int .i64 0, .string eS] 26)) := fun _ => by kernel_rfl
  unfold gtAgg trmAgg
  go_enter Try.func14, Try.ntmps14
  go_upto_region 1 with (fail)
  generalize (w.alloc (.cells #[.int .i64 15, .int .i64 0, .int .i64 0, .string eS, .int .i64 0, .int .i64 0, .string eS, .slice (some ⟨kb, 0, none⟩) 2 2, .slice none 0 0, .int .i64 0] 32)).alloc (.cells #[.int .i64 0, .int .i64 0, .string { data := #[] }] 26) = w1 at *
  have HBN := hide (Bel.one w1 (.cells #[.int .i64 0, .int .i64 0, .string eS, .int .i64 0, .int .i64 0, .string eS] 26))
  have HW := hide (hp_new w1 #[.int .i64 0, .int .i64 0, .string eS, .int .i64 0, .int .i64 0, .string eS] 26)
  have L0 := hide l0
  have L6 := hide (Lib.cell_of_heap H1.out 6)
  have L7 := hide l7
  go_upto_region 13 with (fail)
  clear l0 l7 hmk
  generalize w1.alloc (.cells #[.int .i64 0, .int .i64 0, .string eS, .int .i64 0, .int .i64 0, .string eS] 26) = w2 at *
  have l7 := kept HBN.out L7.out
  have k0 := Lib.cell_of_heap (HK.out.kept HBN.out) 0
  have k1 := Lib.cell_of_heap (HK.out.kept HBN.out) 1
  have k2 := Lib.cell_of_heap (HK.out.kept HBN.out) 2
  have k3 := Lib.cell_of_heap (HK.out.kept HBN.out) 3
  have k4 := Lib.cell_of_heap (HK.out.kept HBN.out) 4
  have k5 := Lib.cell_of_heap (HK.out.kept HBN.out) 5
  have k6 := Lib.cell_of_heap (HK.out.kept HBN.out) 6
  have k7 := Lib.cell_of_heap (HK.out.kept HBN.out) 7
  have k8 := Lib.cell_of_heap (HK.out.kept HBN.out) 8
  have k9 := Lib.cell_of_heap (HK.out.kept HBN.out) 9
  have k10 := Lib.cell_of_heap (HK.out.kept HBN.out) 10
  have k11 := Lib.cell_of_heap (HK.out.kept HBN.out) 11
  have k12 := Lib.cell_of_heap (HK.out.kept HBN.out) 12
  have k13 := Lib.cell_of_heap (HK.out.kept HBN.out) 13
  have k14 := Lib.cell_of_heap (HK.out.kept HBN.out) 14
  have k15 := Lib.cell_of_heap (HK.out.kept HBN.out) 15
  have k16 := Lib.cell_of_heap (HK.out.kept HBN.out) 16
  have k17 := Lib.cell_of_heap (HK.out.kept HBN.out) 17
  have k18 := Lib.cell_of_heap (HK.out.kept HBN.out) 18
  have k19 := Lib.cell_of_heap (HK.out.kept HBN.out) 19
  have QE0 := hide (fun W h1 h2 => evalcol_c 1 0 0 eS eS (.slice none 0 0) (.slice none 0 0) 0 eb 1 (some ⟨eg, 0, none⟩) 2 2 [nullV, numV 2] (numV 2) W h1 h2 rfl)
  have QE1 := hide (fun W => evalc_c 2 1 ByteArray.empty 0 0 eS (.slice none 0 0) (.slice none 0 0) 0 (.slice (some ⟨eb, 0, none⟩) 1 1) W)
  go_wp2_with fail
  refine wp_loop_rounds 3 ?_
  rw [rounds_succ]
  have QE0' : Hid (∀ W, W.cell? ⟨eb, 0, none⟩ = some (.slice (some ⟨eg, 0, none⟩) 2 2) → RowV W W.heap.size (some ⟨eg, 0, none⟩) 2 2 [nullV, numV 2] → Calls Try.prog 14 #[.agg #[.int .i64 2, .int .i64 0, .int .i64 0, .string eS, .int .i64 0, .int .i64 1, .string eS, .slice none 0 0, .slice none 0 0, .int .i64 0], .slice (some ⟨eb, 0, none⟩) 1 1] W (GivesV W (numV 2))) := fun W h1 h2 => QE0.out W h1 h2
  have QE1' : Hid (∀ W, Calls Try.prog 14 #[.agg #[.int .i64 1, .int .i64 2, .int .i64 1, .string ByteArray.empty, .int .i64 0, .int .i64 0, .string eS, .slice none 0 0, .slice none 0 0, .int .i64 0], .slice (some ⟨eb, 0, none⟩) 1 1] W (GivesV W (numV 1))) := fun W => QE1.out W
  clear QE0 QE1
  have HY0 := hide (hp_new w2 #[.int .i64 2, .int .i64 0, .int .i64 0, .string eS, .int .i64 0, .int .i64 1, .string eS, .slice none 0 0, .slice none 0 0, .int .i64 0] 32)
  replace HBN := hide (HBN.out.alloc HBN.out.size (.cells #[.int .i64 2, .int .i64 0, .int .i64 0, .string eS, .int .i64 0, .int .i64 1, .string eS, .slice none 0 0, .slice none 0 0, .int .i64 0] 32))
  replace HW := hide (HW.out.kept (Bel.one w2 (.cells #[.int .i64 2, .int .i64 0, .int .i64 0, .string eS, .int .i64 0, .int .i64 1, .string eS, .slice none 0 0, .slice none 0 0, .int .i64 0] 32)))
  go_upto_region 16 with (fail)
  generalize w2.alloc (.cells #[.int .i64 2, .int .i64 0, .int .i64 0, .string eS, .int .i64 0, .int .i64 1, .string eS, .slice none 0 0, .slice none 0 0, .int .i64 0] 32) = w3 at *
  have d0 := Lib.cell_of_heap HY0.out 0
  have d1 := Lib.cell_of_heap HY0.out 1
  have d2 := Lib.cell_of_heap HY0.out 2
  have d3 := Lib.cell_of_heap HY0.out 3
  have d4 := Lib.cell_of_heap HY0.out 4
  have d5 := Lib.cell_of_heap HY0.out 5
  have d6 := Lib.cell_of_heap HY0.out 6
  have d7 := Lib.cell_of_heap HY0.out 7
  have d8 := Lib.cell_of_heap HY0.out 8
  have d9 := Lib.cell_of_heap HY0.out 9
  go_wp2_with fail
  refine (QE0'.out _ (kept HBN.out HE.out) (HR.out.kept HBN.out)).mono ?_
  rintro e w4 ⟨rfl, hb⟩
  clear d0 d1 d2 d3 d4 d5 d6 d7 d8 d9 HY0
  replace HBN := hide (Bel.then HBN.out hb)
  replace HW := hide (HW.out.kept hb)
  clear hb
  have c0 := Lib.cell_of_heap HW.out 0
  have y0 := Lib.frozen_of_heap HW.out 0
  have c1 := Lib.cell_of_heap HW.out 1
  have y1 := Lib.frozen_of_heap HW.out 1
  have c2 := Lib.cell_of_heap HW.out 2
  have y2 := Lib.frozen_of_heap HW.out 2
  simp only [valAgg, numV]
  replace HW := hide (hp_set0 HW.out (.int .i64 2) (.int .i64 2) (.string ByteArray.empty))
  replace HBN := hide (below_set3 (o := 0) HBN.out (Nat.le_refl _) (.int .i64 2) (.int .i64 2) (.string ByteArray.empty))
  go_upto_region 17 with (fail)
  clear c0 c1 c2 y0 y1 y2
  generalize ((w4.setCell ⟨w1.heap.size, 0, none⟩ (.int .i64 2)).setCell ⟨w1.heap.size, 1, none⟩ (.int .i64 2)).setCell ⟨w1.heap.size, 2, none⟩ (.string ByteArray.empty) = w5 at *
  clear k0 k1 k2 k3 k4 k5 k6 k7 k8 k9 k10 k11 k12 k13 k14 k15 k16 k17 k18 k19
  have k10 := Lib.cell_of_heap (HK.out.kept HBN.out) 10
  have k11 := Lib.cell_of_heap (HK.out.kept HBN.out) 11
  have k12 := Lib.cell_of_heap (HK.out.kept HBN.out) 12
  have k13 := Lib.cell_of_heap (HK.out.kept HBN.out) 13
  have k14 := Lib.cell_of_heap (HK.out.kept HBN.out) 14
  have k15 := Lib.cell_of_heap (HK.out.kept HBN.out) 15
  have k16 := Lib.cell_of_heap (HK.out.kept HBN.out) 16
  have k17 := Lib.cell_of_heap (HK.out.kept HBN.out) 17
  have k18 := Lib.cell_of_heap (HK.out.kept HBN.out) 18
  have k19 := Lib.cell_of_heap (HK.out.kept HBN.out) 19
  go_wp2_with fail
  rw [rounds_succ]
  have HY1 := hide (hp_new w5 #[.int .i64 1, .int .i64 2, .int .i64 1, .string ByteArray.empty, .int .i64 0, .int .i64 0, .string eS, .slice none 0 0, .slice none 0 0, .int .i64 0] 32)
  replace HBN := hide (HBN.out.alloc HBN.out.size (.cells #[.int .i64 1, .int .i64 2, .int .i64 1, .string ByteArray.empty, .int .i64 0, .int .i64 0, .string eS, .slice none 0 0, .slice none 0 0, .int .i64 0] 32))
  replace HW := hide (HW.out.kept (Bel.one w5 (.cells #[.int .i64 1, .int .i64 2, .int .i64 1, .string ByteArray.empty, .int .i64 0, .int .i64 0, .string eS, .slice none 0 0, .slice none 0 0, .int .i64 0] 32)))
  go_upto_region 16 with (fail)
  generalize w5.alloc (.cells #[.int .i64 1, .int .i64 2, .int .i64 1, .string ByteArray.empty, .int .i64 0, .int .i64 0, .string eS, .slice none 0 0, .slice none 0 0, .int .i64 0] 32) = w6 at *
  have d0 := Lib.cell_of_heap HY1.out 0
  have d1 := Lib.cell_of_heap HY1.out 1
  have d2 := Lib.cell_of_heap HY1.out 2
  have d3 := Lib.cell_of_heap HY1.out 3
  have d4 := Lib.cell_of_heap HY1.out 4
  have d5 := Lib.cell_of_heap HY1.out 5
  have d6 := Lib.cell_of_heap HY1.out 6
  have d7 := Lib.cell_of_heap HY1.out 7
  have d8 := Lib.cell_of_heap HY1.out 8
  have d9 := Lib.cell_of_heap HY1.out 9
  go_wp2_with fail
  refine (QE1'.out _).mono ?_
  rintro e w7 ⟨rfl, hb⟩
  clear d0 d1 d2 d3 d4 d5 d6 d7 d8 d9 HY1
  replace HBN := hide (Bel.then HBN.out hb)
  replace HW := hide (HW.out.kept hb)
  clear hb
  have c0 := Lib.cell_of_heap HW.out 3
  have y0 := Lib.frozen_of_heap HW.out 3
  have c1 := Lib.cell_of_heap HW.out 4
  have y1 := Lib.frozen_of_heap HW.out 4
  have c2 := Lib.cell_of_heap HW.out 5
  have y2 := Lib.frozen_of_heap HW.out 5
  simp only [valAgg, numV]
  replace HW := hide (hp_set3 HW.out (.int .i64 2) (.int .i64 1) (.string ByteArray.empty))
  replace HBN := hide (below_set3 (o := 3) HBN.out (Nat.le_refl _) (.int .i64 2) (.int .i64 1) (.string ByteArray.empty))
  go_upto_region 17 with (fail)
  clear c0 c1 c2 y0 y1 y2
  generalize ((w7.setCell ⟨w1.heap.size, 3, none⟩ (.int .i64 2)).setCell ⟨w1.heap.size, 4, none⟩ (.int .i64 1)).setCell ⟨w1.heap.size, 5, none⟩ (.string ByteArray.empty) = w8 at *
  clear k10 k11 k12 k13 k14 k15 k16 k17 k18 k19
  go_wp2_with fail
  rw [rounds_succ]
  have b0 := kept HBN.out L0.out
  have b6 := kept HBN.out L6.out
  have HRow := hide (row_blk (l := [numV 2, numV 1]) (n := 2) HW.out rfl rfl (by decide))
  have QA := hide (fun W h => apply2_c 15 (.inl ⟨by decide, by decide⟩) eS (numV 2) (numV 1) (some ⟨w1.heap.size, 0, none⟩) 2 W h (fun h => by omega))
  have hV : binV 15 (numV 2) (numV 1) = boolV true := by kernel_rfl
  rw [hV] at QA
  clear hV
  go_wp2_with fail
  refine (QA.out _ HRow.out).mono ?_
  rintro e w9 ⟨rfl, hb⟩
  have HX9 := hide (HX.out.kept (Bel.then HBN.out hb))
  have HB9 := hide (Bel.then HB.out (Bel.then HBN.out hb))
  obtain ⟨⟨c0, c1, c2⟩, ⟨y0, y1, y2⟩⟩ := HX9.out.all
  have HS := hide (HX9.out.set3 (boolV true))
  have HBS := hide (below_setV HB9.out (show w.heap.size ≤ w.heap.size + 1 by omega) (boolV true))
  clear HX9 HB9 hb
  generalize boolV true = r at *
  unfold valAgg
  go_wp2_with fail
  exact end_v Try.results14 rfl rfl HS.out ⟨rfl, HBS.out⟩
set_option maxRecDepth 100000 in
set_option maxHeartbeats 2000000 in
theorem truthgt_c (kb eb eg : Nat) (w : World) (hk : Hp w kb kidsCs 32) (he : w.cell? ⟨eb, 0, none⟩ = some (.slice (some ⟨eg, 0, none⟩) 2 2)) (hr : RowV w w.heap.size (some ⟨eg, 0, none⟩) 2 2 [nullV, numV 2]) : Calls Try.prog 16 #[gtAgg kb, .slice (some ⟨eb, 0, none⟩) 1 1] w fun e w' => e = .returned (.int .i64 2) ∧ Below w.heap.size w w' := by
  obtain ⟨o, ho⟩ : ∃ o : Obj, o = .cells #[.int .i64 15, .int .i64 0, .int .i64 0, .string eS, .int .i64 0, .int .i64 0, .string eS, .slice (some ⟨kb, 0, none⟩) 2 2, .slice none 0 0, .int .i64 0] 32 := ⟨_, rfl⟩
  have hB := Bel.one w o
  have QE := hide (evalgt_c kb eb eg (w.alloc o) (hk.kept hB) (kept hB he) (hr.kept hB))
  have QF := hide (fun W => fromv_c (boolV true) W)
  have hF : frV (boolV true) = 2 := rfl
  rw [hF] at QF
  have H1 := hide (show Hp (w.alloc o) w.heap.size #[.int .i64 15, .int .i64 0, .int .i64 0, .string eS, .int .i64 0, .int .i64 0, .string eS, .slice (some ⟨kb, 0, none⟩) 2 2, .slice none 0 0, .int .i64 0] 32 by rw [ho]; exact hp_new w _ _)
  have HB := hide hB
  clear hB hk he hr hF
  unfold gtAgg trmAgg at QE ⊢
  go_enter Try.func16, Try.ntmps16
  go_upto_region 1 with (fail)
  rw [← ho]
  clear ho
  generalize w.alloc o = w1 at *
  have d0 := Lib.cell_of_heap H1.out 0
  have d1 := Lib.cell_of_heap H1.out 1
  have d2 := Lib.cell_of_heap H1.out 2
  have d3 := Lib.cell_of_heap H1.out 3
  have d4 := Lib.cell_of_heap H1.out 4
  have d5 := Lib.cell_of_heap H1.out 5
  have d6 := Lib.cell_of_heap H1.out 6
  have d7 := Lib.cell_of_heap H1.out 7
  have d8 := Lib.cell_of_heap H1.out 8
  have d9 := Lib.cell_of_heap H1.out 9
  clear H1
  go_wp2_with fail
  refine QE.out.mono ?_
  rintro e w2 ⟨rfl, hb⟩
  replace HB := hide (Bel.then HB.out hb)
  clear hb d0 d1 d2 d3 d4 d5 d6 d7 d8 d9
  go_wp2_with fail
  refine (QF.out _).mono ?_
  rintro e w3 ⟨rfl, hb⟩
  replace HB := hide (Bel.then HB.out hb)
  clear hb
  go_wp2_with fail
  go_ret
  exact ⟨rfl, HB.out⟩
end Go.Proofs.Ytlkeghfdpbfhbaa
