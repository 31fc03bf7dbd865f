/- The contract of the statements' own examples. -/
import Derived.Test.YtcojhpfnehfppaaLkK
namespace Go.Proofs.Ytcojhpfnehfppaa
set_option linter.unusedVariables false
open Go.ChangeShapes Go.WideShapes Go.ChangeAt Go.RowKit

theorem ex1 : exactP { data := #[97, 92, 95, 98] } = ({ data := #[97, 95, 98] }, true) := by
  have h : signsL [97, 92, 95, 98] = [.byte 97, .byte 95, .byte 98] := rfl
  unfold exactP
  show (if (plainL (signsL [97, 92, 95, 98])).length < (signsL [97, 92, 95, 98]).length then _ else (strL (plainL (signsL [97, 92, 95, 98])), true)) = _
  rw [h]
  rfl
theorem ex2 : exactP { data := #[97, 95] } = ({ data := #[] }, false) := by
  have h : signsL [97, 95] = [.byte 97, .one] := rfl
  unfold exactP
  show (if (plainL (signsL [97, 95])).length < (signsL [97, 95]).length then _ else (strL (plainL (signsL [97, 95])), true)) = _
  rw [h]
  rfl
theorem ma1 : matchB { data := #[97, 98, 99] } { data := #[97, 37] } = true := by
  show matchS (signsL [97, 37]) [97, 98, 99] = true
  rw [show signsL [97, 37] = [.byte 97, .all] from rfl, match_single rfl, match_all_cons, match_all_cons, match_all_nil, match_nil, match_nil, match_nil]
  rfl
theorem ma2 : matchB { data := #[] } { data := #[37, 37] } = true := by
  show matchS (signsL [37, 37]) [] = true
  rw [show signsL [37, 37] = [.all, .all] from rfl, match_empty]
  rfl
theorem ma3 : matchB { data := #[97, 98, 99] } { data := #[97, 95] } = false := by
  show matchS (signsL [97, 95]) [97, 98, 99] = false
  rw [show signsL [97, 95] = [.byte 97, .one] from rfl, match_single rfl, match_single rfl, match_nil]
  rfl
theorem ma4 : matchB { data := #[97, 37] } { data := #[97, 92, 37] } = true := by
  show matchS (signsL [97, 92, 37]) [97, 37] = true
  rw [show signsL [97, 92, 37] = [.byte 97, .byte 37] from rfl, match_single rfl, match_single rfl, match_nil]
  rfl
theorem pr1 : prefixP { data := #[97, 98, 37, 99] } = { data := #[97, 98] } := rfl
theorem qu1 : quoteP { data := #[53, 37] } = { data := #[53, 92, 37] } := rfl
set_option maxRecDepth 100000 in
set_option maxHeartbeats 1000000 in
theorem awake_c (w : World) : Calls Try.prog 7 #[] w fun e w' => e = .returned (.bool true) ∧ Below w.heap.size w w' := by
  have Q1 := hide (fun W => exact_c { data := #[97, 92, 95, 98] } W (by decide))
  have Q2 := hide (fun W => exact_c { data := #[97, 95] } W (by decide))
  have Q3 := hide (fun W => match_c { data := #[97, 98, 99] } { data := #[97, 37] } W (by decide) (by decide))
  have Q4 := hide (fun W => match_c { data := #[] } { data := #[37, 37] } W (by decide) (by decide))
  have Q5 := hide (fun W => match_c { data := #[97, 98, 99] } { data := #[97, 95] } W (by decide) (by decide))
  have Q6 := hide (fun W => match_c { data := #[97, 37] } { data := #[97, 92, 37] } W (by decide) (by decide))
  have Q7 := hide (fun W => prefix_c { data := #[97, 98, 37, 99] } W (by decide))
  have Q8 := hide (fun W => quote_c { data := #[53, 37] } W (by decide))
  rw [ex1] at Q1
  rw [ex2] at Q2
  rw [ma1] at Q3
  rw [ma2] at Q4
  rw [ma3] at Q5
  rw [ma4] at Q6
  rw [pr1] at Q7
  rw [qu1] at Q8
  go_enter Try.func7, Try.ntmps7
  go_wp2_with fail
  refine (Q1.out _).mono ?_
  rintro e w1 ⟨rfl, hb⟩
  have HB1 := hide hb
  clear hb Q1
  go_wp2_with fail
  refine (Q2.out _).mono ?_
  rintro e w2 ⟨rfl, hb⟩
  have HB2 := hide (Bel.then HB1.out hb)
  clear hb Q2 HB1
  go_wp2_with fail
  refine (Q3.out _).mono ?_
  rintro e w3 ⟨rfl, hb⟩
  have HB3 := hide (Bel.then HB2.out hb)
  clear hb Q3 HB2
  go_wp2_with fail
  refine (Q4.out _).mono ?_
  rintro e w4 ⟨rfl, hb⟩
  have HB4 := hide (Bel.then HB3.out hb)
  clear hb Q4 HB3
  go_wp2_with fail
  refine (Q5.out _).mono ?_
  rintro e w5 ⟨rfl, hb⟩
  have HB5 := hide (Bel.then HB4.out hb)
  clear hb Q5 HB4
  go_wp2_with fail
  refine (Q6.out _).mono ?_
  rintro e w6 ⟨rfl, hb⟩
  have HB6 := hide (Bel.then HB5.out hb)
  clear hb Q6 HB5
  go_wp2_with fail
  refine (Q7.out _).mono ?_
  rintro e w7 ⟨rfl, hb⟩
  have HB7 := hide (Bel.then HB6.out hb)
  clear hb Q7 HB6
  go_wp2_with fail
  refine (Q8.out _).mono ?_
  rintro e w8 ⟨rfl, hb⟩
  have HB8 := hide (Bel.then HB7.out hb)
  clear hb Q8 HB7
  go_wp2_with fail
  go_ret
  exact ⟨ret_bool (by first | rfl | (simp; done)), HB8.out⟩
end Go.Proofs.Ytcojhpfnehfppaa
