/- The walks of the laws on package num. -/
import Derived.Test.YtnkfimpfnofhnaaDoorNumT
namespace Go.Proofs.YtnkfimpfnofhnaaDoor
set_option linter.unusedVariables false
open Go.ChangeShapes Go.WideShapes Go.ChangeAt Go.RowKit

theorem itoa12 : Lib.itoa (-12) = [45, 49, 50] := by simp [Lib.itoa, Lib.decDigits]
theorem parse12 : parseP ⟨#[45, 49, 50]⟩ = (-12, true) := by
  have h : Lib.atoiAll (⟨#[45, 49, 50]⟩ : ByteArray).data.toList = .ok (-12) := by decide +kernel
  have e : (⟨#[45, 49, 50]⟩ : ByteArray).toList = [45, 49, 50] := by decide +kernel
  unfold parseP
  rw [h]
  simp only [itoa12, e]
  decide
theorem awake_c (w : World) (hW : NumW w) : Calls Tryd.prog 14 #[] w fun e w' => e = .returned (.bool true) ∧ Below w.heap.size w w' := by
  have HW := hide hW
  clear hW
  have q1 := fun W => div_c (-7) 2 W
  have q2 := fun W => mod_c (-7) 2 W
  have q3 := fun W => parse_c ⟨#[45, 49, 50]⟩ (by simp [ByteArray.size]) W
  have q4 := fun W => text_c (-12) (by omega) (by omega) W
  rw [show divP (-7) 2 = (-3, true) by decide] at q1
  rw [show modP (-7) 2 = (-1, true) by decide] at q2
  rw [parse12] at q3
  rw [itoa12] at q4
  have Q1 := hide q1
  have Q2 := hide q2
  have Q3 := hide q3
  have Q4 := hide q4
  clear q1 q2 q3 q4
  have e5 : inN 1000000000000000 = true := by decide
  go_enter Tryd.func14, Tryd.ntmps14
  go_wp2_with fail
  refine (Q1.out _).mono ?_
  rintro e w' ⟨rfl, rfl⟩
  go_wp2_with fail
  refine (Q2.out _).mono ?_
  rintro e w' ⟨rfl, rfl⟩
  go_wp2_with fail
  refine (Q3.out _ HW.out).mono ?_
  rintro e w1 ⟨rfl, hb1⟩
  have HW1 := hide (HW.out.keep hb1)
  go_wp2_with fail
  refine (Q4.out _ HW1.out).mono ?_
  rintro e w2 ⟨rfl, hb2⟩
  go_wp2_with (first | (go_at_call 15; refine (in_c _ _).mono ?_; rintro e w' ⟨rfl, rfl⟩))
  go_ret
  exact ⟨rfl, Bel.then hb1 hb2⟩
theorem says_w (a b : Int) (w : World) (hW : NumW w) : Calls Tryd.prog 3 #[.int .i64 a, .int .i64 b] w fun e w' => e = .returned (.bool true) ∧ Below w.heap.size w w' := by
  have HW := hide hW
  clear hW
  have t1 : ∀ b : Bool, (b == b) = true := fun b => by cases b <;> rfl
  have t2 : ∀ x : Int, decide (x = x) = true := fun x => by simp
  go_enter Tryd.func3, Tryd.ntmps3
  go_wp2_with (first | (go_at_call 8; refine (add_c _ _ _).mono ?_; rintro e w' ⟨rfl, rfl⟩) | (go_at_call 9; refine (radd_c _ _ _).mono ?_; rintro e w' ⟨rfl, rfl⟩) | (go_at_call 10; refine (sub_c _ _ _).mono ?_; rintro e w' ⟨rfl, rfl⟩) | (go_at_call 11; refine (rsub_c _ _ _).mono ?_; rintro e w' ⟨rfl, rfl⟩) | (go_at_call 12; refine (mul_c _ _ _).mono ?_; rintro e w' ⟨rfl, rfl⟩) | (go_at_call 13; refine (rmul_c _ _ _).mono ?_; rintro e w' ⟨rfl, rfl⟩) | (go_at_call 14; refine (awake_c _ HW.out).mono ?_; rintro e w' ⟨rfl, hb⟩) | (go_at_call 15; refine (in_c _ _).mono ?_; rintro e w' ⟨rfl, rfl⟩) | (go_at_call 16; refine (rin_c _ _).mono ?_; rintro e w' ⟨rfl, rfl⟩) | (go_at_call 17; refine (same_c _ _ _ _ _).mono ?_; rintro e w' ⟨rfl, rfl⟩))
  go_ret
  exact ⟨rfl, hb⟩
set_option maxHeartbeats 1000000 in
theorem divides_no (a b : Int) (w : World) (hW : NumW w) (h : both a b = false ∨ b = 0) : Calls Tryd.prog 4 #[.int .i64 a, .int .i64 b] w fun e w' => e = .returned (.bool true) ∧ Below w.heap.size w w' := by
  have HW := hide hW
  clear hW
  have t1 : ∀ b : Bool, (b == b) = true := fun b => by cases b <;> rfl
  have t2 : ∀ x : Int, decide (x = x) = true := fun x => by simp
  have hd : divP a b = (0, false) := by
    unfold divP
    rcases h with h | h
    · rw [h]; rfl
    · rw [h]; simp
  have hm : modP a b = (0, false) := by
    unfold modP
    rcases h with h | h
    · rw [h]; rfl
    · rw [h]; simp
  have q1 := fun W => div_c a b W
  have q2 := fun W => rdiv_c a b W
  have q3 := fun W => mod_c a b W
  have q4 := fun W => rmod_c a b W
  rw [hd] at q1 q2
  rw [hm] at q3 q4
  have Q1 := hide q1
  have Q2 := hide q2
  have Q3 := hide q3
  have Q4 := hide q4
  clear q1 q2 q3 q4 hd hm
  have hcase : b = 0 ∨ ((b == 0) = false ∧ (inN a = false ∨ (inN a = true ∧ inN b = false))) := by
    by_cases hb : b = 0
    · exact .inl hb
    · refine .inr ⟨by simp [hb], ?_⟩
      rcases h with h | h
      · exact both_not h
      · exact absurd h hb
  clear h
  rcases hcase with rfl | ⟨hb, ha | ⟨ha, hb2⟩⟩
  all_goals
    go_enter Tryd.func4, Tryd.ntmps4
    go_wp2_with (first | (go_at_call 18; refine (Q1.out _).mono ?_; rintro e w' ⟨rfl, rfl⟩) | (go_at_call 19; refine (Q2.out _).mono ?_; rintro e w' ⟨rfl, rfl⟩) | (go_at_call 20; refine (Q3.out _).mono ?_; rintro e w' ⟨rfl, rfl⟩) | (go_at_call 21; refine (Q4.out _).mono ?_; rintro e w' ⟨rfl, rfl⟩) | (go_at_call 22; refine (neg_c _ _).mono ?_; rintro e w' ⟨rfl, rfl⟩) | (go_at_call 23; refine (rneg_c _ _).mono ?_; rintro e w' ⟨rfl, rfl⟩) | (go_at_call 14; refine (awake_c _ HW.out).mono ?_; rintro e w' ⟨rfl, hb⟩) | (go_at_call 15; refine (in_c _ _).mono ?_; rintro e w' ⟨rfl, rfl⟩) | (go_at_call 17; refine (same_c _ _ _ _ _).mono ?_; rintro e w' ⟨rfl, rfl⟩))
    go_ret
    exact ⟨rfl, hb⟩
set_option maxRecDepth 100000 in
set_option maxHeartbeats 2000000 in
theorem divides_yes (a b : Int) (w : World) (hW : NumW w) (h : both a b = true) (h0 : ¬ b = 0) : Calls Tryd.prog 4 #[.int .i64 a, .int .i64 b] w fun e w' => e = .returned (.bool true) ∧ Below w.heap.size w w' := by
  have HW := hide hW
  clear hW
  have t1 : ∀ b : Bool, (b == b) = true := fun b => by cases b <;> rfl
  have t2 : ∀ x : Int, decide (x = x) = true := fun x => by simp
  have t3 : ∀ x : Int, (x == x) = true := fun x => by simp
  obtain ⟨ha, hb⟩ := (both_iff a b).1 h
  have ra := (inN_iff a).1 ha
  have rb := (inN_iff b).1 hb
  have hbk := div_back ha hb h0
  have hb0 : (b == 0) = false := by simp [h0]
  have hd : divP a b = (a.tdiv b, true) := by unfold divP; rw [h, hb0]; rfl
  have hm : modP a b = (a.tmod b, true) := by unfold modP; rw [h, hb0]; rfl
  have q1 := fun W => div_c a b W
  have q2 := fun W => rdiv_c a b W
  have q3 := fun W => mod_c a b W
  have q4 := fun W => rmod_c a b W
  have q5 := fun W => mul_c (a.tdiv b) b W
  have q6 := fun W => add_c (a.tdiv b * b) (a.tmod b) W
  rw [hd] at q1 q2
  rw [hm] at q3 q4
  rw [hbk.1] at q5
  rw [hbk.2.1] at q6
  obtain ⟨_, _, hs, hr⟩ := hbk
  generalize a.tdiv b * b = z at *
  generalize a.tdiv b = x at *
  generalize a.tmod b = y at *
  have Q1 := hide q1
  have Q2 := hide q2
  have Q3 := hide q3
  have Q4 := hide q4
  have Q5 := hide q5
  have Q6 := hide q6
  clear q1 q2 q3 q4 q5 q6 hd hm ha hb h
  have hy : (y == 0) = true ∨ ((y == 0) = false ∧ y < 0 ∧ a < 0) ∨ ((y == 0) = false ∧ 0 < y ∧ 0 ≤ a) := by
    by_cases hy : y = 0
    · left; simp [hy]
    · right
      by_cases hy2 : y < 0
      · exact .inl ⟨by simp [hy], hy2, by omega⟩
      · exact .inr ⟨by simp [hy], by omega, by omega⟩
  clear hs
  rcases hr with ⟨hr1, hr2, hr3⟩ | ⟨hr1, hr2, hr3⟩ <;> rcases hy with hy | ⟨hy, hy1, hy2⟩ | ⟨hy, hy1, hy2⟩
  all_goals
    go_enter Tryd.func4, Tryd.ntmps4
    go_wp2_with (first | (go_at_call 18; refine (Q1.out _).mono ?_; rintro e w' ⟨rfl, rfl⟩) | (go_at_call 19; refine (Q2.out _).mono ?_; rintro e w' ⟨rfl, rfl⟩) | (go_at_call 20; refine (Q3.out _).mono ?_; rintro e w' ⟨rfl, rfl⟩) | (go_at_call 21; refine (Q4.out _).mono ?_; rintro e w' ⟨rfl, rfl⟩) | (go_at_call 22; refine (neg_c _ _).mono ?_; rintro e w' ⟨rfl, rfl⟩) | (go_at_call 23; refine (rneg_c _ _).mono ?_; rintro e w' ⟨rfl, rfl⟩) | (go_at_call 14; refine (awake_c _ HW.out).mono ?_; rintro e w' ⟨rfl, hb⟩) | (go_at_call 12; refine (Q5.out _).mono ?_; rintro e w' ⟨rfl, rfl⟩) | (go_at_call 8; refine (Q6.out _).mono ?_; rintro e w' ⟨rfl, rfl⟩) | (go_at_call 17; refine (same_c _ _ _ _ _).mono ?_; rintro e w' ⟨rfl, rfl⟩))
    go_ret
    exact ⟨rfl, hb⟩
end Go.Proofs.YtnkfimpfnofhnaaDoor
