/- The contract of the statements' examples. -/
import Derived.Test.YtcmhnaanfkpheaaDoorLxY
namespace Go.Proofs.YtcmhnaanfkpheaaDoor
set_option linter.unusedVariables false
open Go.ChangeShapes Go.WideShapes Go.ChangeAt Go.RowKit

theorem own_slice {w : World} {base : Nat} {e : TypeId} {size n : Nat} {v : Value} {xs : List Value} (h : w.ownsRow base e size v (n + 1) xs) : ∃ g cap, v = .slice (some ⟨g, 0, none⟩) (n + 1) cap ∧ g < w.heap.size := by
  rcases h.2 with ⟨_, hn⟩ | ⟨g, cap, cur, rfl, _, hg, _⟩
  · omega
  · exact ⟨g, cap, rfl, (Array.getElem?_eq_some_iff.1 hg).1⟩
set_option maxRecDepth 100000 in
set_option maxHeartbeats 4000000 in
theorem awake_c (w : World) (hM : ∃ m, w.cell? ⟨1, 0, none⟩ = some (.int .i64 m)) : Calls Tryd.prog 9 #[] w fun e w' => e = .returned (.bool true) ∧ Below w.heap.size w w' := by
  have Q1 := hide (fun W h => tokens_c { data := #[97, 60, 61, 49, 32, 45, 45, 120] } W h (by decide))
  have Q2 := hide (fun W h => next_c { data := #[32, 39, 105, 116, 39, 39, 115, 39] } 0 W h (by decide) (by decide))
  have Q3 := hide (fun W h => tokens_c { data := #[97, 32, 39, 98] } W h (by decide))
  have Q4 := hide (fun W => reserved_c { data := #[115, 101, 108, 101, 99, 116] } W)
  have Q5 := hide (fun W => name_c { data := #[97, 95, 49] } W (by decide))
  have Q6 := hide (fun W => name_c { data := #[115, 101, 108, 101, 99, 116] } W (by decide))
  rw [show ({ data := #[97, 60, 61, 49, 32, 45, 45, 120] } : ByteArray).data.toList = [97, 60, 61, 49, 32, 45, 45, 120] from rfl, toks1] at Q1
  rw [show ({ data := #[32, 39, 105, 116, 39, 39, 115, 39] } : ByteArray).data.toList = [32, 39, 105, 116, 39, 39, 115, 39] from rfl, next1] at Q2
  rw [show ({ data := #[97, 32, 39, 98] } : ByteArray).data.toList = [97, 32, 39, 98] from rfl, toks2] at Q3
  rw [show ({ data := #[115, 101, 108, 101, 99, 116] } : ByteArray).data.toList = [115, 101, 108, 101, 99, 116] from rfl, res1] at Q4
  rw [show ({ data := #[97, 95, 49] } : ByteArray).data.toList = [97, 95, 49] from rfl, form1, res2] at Q5
  rw [show ({ data := #[115, 101, 108, 101, 99, 116] } : ByteArray).data.toList = [115, 101, 108, 101, 99, 116] from rfl, form2, res1] at Q6
  rw [show (true && decide (({ data := #[97, 95, 49] } : ByteArray).size ≤ 20) && !false) = true from rfl] at Q5
  rw [show (true && decide (({ data := #[115, 101, 108, 101, 99, 116] } : ByteArray).size ≤ 20) && !true) = false from rfl] at Q6
  have HM := hide hM
  clear hM
  go_enter Tryd.func9, Tryd.ntmps9
  go_wp2_with fail
  refine (Q1.out _ HM.out).mono ?_
  rintro e w1 ⟨v, rfl, hb, ho⟩
  obtain ⟨g, cap, rfl, hg⟩ := own_slice (n := 2) ho
  have HM1 := hide (max_kept HM.out hb)
  have HB1 := hide hb
  have HO1 := hide ho
  clear hb ho Q1
  go_wp2_with fail
  refine (Q2.out _ HM1.out).mono ?_
  rintro e w2 ⟨rfl, hb⟩
  have HM2 := hide (max_kept HM1.out hb)
  have HO2 := hide (own_below HO1.out hb)
  have HB2 := hide (Bel.then HB1.out hb)
  clear hb Q2 HB1 HO1
  obtain ⟨o4, ho4⟩ : ∃ o4 : Obj, o4 = .cells #[.int .i64 4, .int .i64 1, .int .i64 7, .int .i64 0, .string (strL [105, 116, 39, 115])] 24 := ⟨_, rfl⟩
  have HX := hide (show TokBox (w2.alloc o4) w2.heap.size 4 1 7 0 (strL [105, 116, 39, 115]) by rw [ho4]; exact heap_alloc_new w2 _)
  have HM3 := hide (max_kept HM2.out (Bel.one w2 o4))
  have HO3 := hide (own_below HO2.out (Bel.one w2 o4))
  have HB3 := hide (HB2.out.alloc HB2.out.size o4)
  clear HM1 HM2 HO2
  unfold tokAgg
  go_upto_region 3 with (fail)
  rw [← ho4]
  clear ho4
  generalize w2.alloc o4 = w3 at *
  go_wp2_with fail
  refine (Q3.out _ HM3.out).mono ?_
  rintro e w4 ⟨v2, rfl, hb, _⟩
  have HO4 := hide (own_below HO3.out hb)
  have HB4 := hide (Bel.then HB3.out hb)
  replace HX := hide (HX.out.kept hb)
  clear hb Q3 HB3 HO3 HM3 HM
  have d0 : w4.cell? ⟨g, 0, none⟩ = some (.int .i64 2) := (HO4.out.cellAt 0 (by decide)).trans rfl
  have d1 : w4.cell? ⟨g, 1, none⟩ = some (.int .i64 0) := (HO4.out.cellAt 1 (by decide)).trans rfl
  have d2 : w4.cell? ⟨g, 2, none⟩ = some (.int .i64 1) := (HO4.out.cellAt 2 (by decide)).trans rfl
  have d3 : w4.cell? ⟨g, 3, none⟩ = some (.int .i64 0) := (HO4.out.cellAt 3 (by decide)).trans rfl
  have d4 : w4.cell? ⟨g, 4, none⟩ = some (.string { data := #[97] }) := (HO4.out.cellAt 4 (by decide)).trans rfl
  have d5 : w4.cell? ⟨g, 5, none⟩ = some (.int .i64 5) := (HO4.out.cellAt 5 (by decide)).trans rfl
  have d6 : w4.cell? ⟨g, 6, none⟩ = some (.int .i64 1) := (HO4.out.cellAt 6 (by decide)).trans rfl
  have d7 : w4.cell? ⟨g, 7, none⟩ = some (.int .i64 2) := (HO4.out.cellAt 7 (by decide)).trans rfl
  have d8 : w4.cell? ⟨g, 8, none⟩ = some (.int .i64 0) := (HO4.out.cellAt 8 (by decide)).trans rfl
  have d9 : w4.cell? ⟨g, 9, none⟩ = some (.string { data := #[60, 61] }) := (HO4.out.cellAt 9 (by decide)).trans rfl
  have d10 : w4.cell? ⟨g, 10, none⟩ = some (.int .i64 3) := (HO4.out.cellAt 10 (by decide)).trans rfl
  have d11 : w4.cell? ⟨g, 11, none⟩ = some (.int .i64 3) := (HO4.out.cellAt 11 (by decide)).trans rfl
  have d12 : w4.cell? ⟨g, 12, none⟩ = some (.int .i64 1) := (HO4.out.cellAt 12 (by decide)).trans rfl
  have d13 : w4.cell? ⟨g, 13, none⟩ = some (.int .i64 1) := (HO4.out.cellAt 13 (by decide)).trans rfl
  have d14 : w4.cell? ⟨g, 14, none⟩ = some (.string { data := #[] }) := (HO4.out.cellAt 14 (by decide)).trans rfl
  obtain ⟨⟨p0, p1, p2, p3, p4⟩, _⟩ := HX.out.all
  rw [show strL [105, 116, 39, 115] = ({ data := #[105, 116, 39, 115] } : ByteArray) from rfl] at p4
  have g1 := tokEq_same 2 0 1 0 { data := #[97] }
  have g2 := tokEq_same 5 1 2 0 { data := #[60, 61] }
  have g3 := tokEq_same 3 3 1 1 { data := #[] }
  have g4 := tokEq_same 4 1 7 0 { data := #[105, 116, 39, 115] }
  clear HX HO4
  go_wp2_with fail
  refine (Q4.out _).mono ?_
  rintro e w5 ⟨rfl, rfl⟩
  go_wp2_with fail
  refine (Q5.out _).mono ?_
  rintro e w5 ⟨rfl, hb⟩
  replace HB4 := hide (Bel.then HB4.out hb)
  clear hb
  go_wp2_with fail
  refine (Q6.out _).mono ?_
  rintro e w6 ⟨rfl, hb⟩
  replace HB4 := hide (Bel.then HB4.out hb)
  clear hb
  go_wp2_with fail
  go_ret
  exact ⟨rfl, HB4.out⟩
end Go.Proofs.YtcmhnaanfkpheaaDoor
