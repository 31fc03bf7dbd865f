/- The walks of the laws on package types. -/
import Derived.Test.YtiaolpeenbmidaaTypesF
namespace Go.Proofs.Ytiaolpeenbmidaa
set_option linter.unusedVariables false
open Go.ChangeShapes Go.WideShapes Go.ChangeAt Go.RowKit

theorem join_ar (a b : Int) : (joinB a b = true ∧ 0 ≤ a ∧ a ≤ 3 ∧ 0 ≤ b ∧ b ≤ 3 ∧ ((a = 0 ∧ joinV a b = b) ∨ (¬ a = 0 ∧ joinV a b = a ∧ (b = a ∨ b = 0)))) ∨ (joinB a b = false ∧ joinV a b = 0 ∧ ¬ ((0 ≤ a ∧ a ≤ 3) ∧ (0 ≤ b ∧ b ≤ 3) ∧ (a = b ∨ a = 0 ∨ b = 0))) := by
  have h1 := joinB_iff a b
  cases e : joinB a b
  · rw [e] at h1
    exact .inr ⟨rfl, joinV_not e, by simpa using h1⟩
  · rw [e] at h1
    have h2 := joinV_of e
    have h1 := h1.1 rfl
    refine .inl ⟨rfl, h1.1.1, h1.1.2, h1.2.1.1, h1.2.1.2, ?_⟩
    by_cases h0 : a = 0
    · exact .inl ⟨h0, h2.1 h0⟩
    · exact .inr ⟨h0, h2.2 h0, by omega⟩
theorem join_ass (a b c : Int) : (joinB a b && joinB (joinV a b) c) = (joinB b c && joinB a (joinV b c)) ∧ ((joinB a b && joinB (joinV a b) c) = true → joinV (joinV a b) c = joinV a (joinV b c) ∧ joinB a (joinV (joinV a b) c) = true ∧ joinV a (joinV (joinV a b) c) = joinV (joinV a b) c) := by
  have h1 := join_ar a b
  have h2 := join_ar b c
  have h3 := join_ar (joinV a b) c
  have h4 := join_ar a (joinV b c)
  have h5 := join_ar a (joinV (joinV a b) c)
  generalize joinV a (joinV (joinV a b) c) = p at *
  generalize joinB a (joinV (joinV a b) c) = q at *
  generalize joinV (joinV a b) c = l at *
  generalize joinB (joinV a b) c = k at *
  generalize joinV a (joinV b c) = r at *
  generalize joinB a (joinV b c) = n at *
  generalize joinV a b = x at *
  generalize joinB a b = i at *
  generalize joinV b c = z at *
  generalize joinB b c = m at *
  cases i <;> cases k <;> cases m <;> cases n <;> cases q <;> simp only [Bool.false_eq_true, Bool.true_eq_false, false_and, true_and, false_or, or_false] at h1 h2 h3 h4 h5 <;> simp <;> omega
set_option maxHeartbeats 800000 in
theorem joins_w (a b c : Int) (w : World) : Calls Try.prog 7 #[.int .i64 a, .int .i64 b, .int .i64 c] w fun e w' => e = .returned (.bool true) ∧ Below w.heap.size w w' := by
  have ha := join_ass a b c
  have hv := joinV_comm b a
  have hb := joinB_comm b a
  have h0 := @joinV_not a b
  have j1 := fun W => join_c a b W
  have j2 := fun W => join_c b a W
  have j3 := fun W => join_c (joinV a b) c W
  have j4 := fun W => join_c b c W
  have j5 := fun W => join_c a (joinV b c) W
  have j6 := fun W => join_c a (joinV (joinV a b) c) W
  rw [hv, hb] at j2
  generalize joinV a (joinV (joinV a b) c) = p at *
  generalize joinB a (joinV (joinV a b) c) = q at *
  generalize joinV (joinV a b) c = l at *
  generalize joinB (joinV a b) c = k at *
  generalize joinV a (joinV b c) = r at *
  generalize joinB a (joinV b c) = n at *
  generalize joinV a b = x at *
  generalize joinB a b = i at *
  generalize joinV b c = z at *
  generalize joinB b c = m at *
  have J1 := hide j1
  have J2 := hide j2
  have J3 := hide j3
  have J4 := hide j4
  have J5 := hide j5
  have J6 := hide j6
  clear j1 j2 j3 j4 j5 j6 hv hb
  obtain ⟨ha1, ha2⟩ := ha
  have hx : i = false → x = 0 := h0
  clear h0
  cases i <;> cases k <;> cases m <;> cases n <;> simp at ha1 ha2 hx
  all_goals try subst hx
  all_goals try (obtain ⟨rfl, rfl, rfl⟩ := ha2)
  all_goals have t1 : ∀ y : Int, (y != y) = false := fun y => by simp
  all_goals
    go_enter Try.func7, Try.ntmps7
    go_wp2_with fail
    refine (J1.out _).mono ?_
    rintro e w' ⟨rfl, rfl⟩
    go_wp2_with fail
    refine (J2.out _).mono ?_
    rintro e w' ⟨rfl, rfl⟩
    go_wp2_with fail
    refine (J3.out _).mono ?_
    rintro e w' ⟨rfl, rfl⟩
    go_wp2_with fail
    refine (J4.out _).mono ?_
    rintro e w' ⟨rfl, rfl⟩
    go_wp2_with fail
    refine (J5.out _).mono ?_
    rintro e w' ⟨rfl, rfl⟩
    go_wp2_with (first | (go_at_call 11; refine (J6.out _).mono ?_; rintro e w' ⟨rfl, rfl⟩) | (go_at_call 8; refine (awake_c _).mono ?_; rintro e w' ⟨rfl, hb⟩))
    go_ret
    exact ⟨rfl, hb⟩
end Go.Proofs.Ytiaolpeenbmidaa
